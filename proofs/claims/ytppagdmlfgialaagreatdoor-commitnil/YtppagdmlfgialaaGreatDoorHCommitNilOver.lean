/- (The row alone.) Whatever the number: every call on a nil state answers what it must, the slot and the root of nothing, no parts, dead, and ErrCut; a state on a fresh tree stands beside it. Its condition: Go's own table math/bits.deBruijn64tab holds, when the call begins, what its initialiser lays; the card ties that to the program's text. -/
import Derived.Test.YtppagdmlfgialaaGreatDoorHCmAwake
import Derived.Test.YtppagdmlfgialaaGreatDoorRows
import Derived.Test.YtppagdmlfgialaaGreatDoorTie
import Derived.Test.YtppagdmlfgialaaGreatDoorCards
import Derived.WalkKit
import Derived.ProofKit
import Derived.OpenShut
import Derived.LaidMore
import Derived.Lay
import Derived.ChangeMaps5
import Derived.Stop.Joined
import Derived.Lib.LaidTab
import Derived.SevenTiedAt
import Derived.Carry
import Derived.Deep.Slices
import Derived.Lib.SmallJoins
import Derived.SizedLaws
import Derived.SliceStrings

namespace Go.Proofs.YtppagdmlfgialaaGreatDoor
open Go Go.RowKit
set_option linter.unusedSimpArgs false
set_option linter.unusedVariables false
set_option maxRecDepth 100000 in
set_option maxHeartbeats 16000000 in
theorem commitNilLaw (n : Int) (W : World) : Calls Tryz.prog 3 #[.int .i64 n] W fun e W' => e = .returned (.bool true) ∧ Below W.heap.size W W' := by
  have HBg : Hid (∀ w : World, Calls Tryz.prog 5 #[.int .i64 64, .int .i64 0, .pointer none] w fun e w' => BegunP w 64 0 none e w') := fun w => begun21_any 64 (by decide) (by decide) 0 (by decide) (by decide) none w
  have hz := zero_sd
  have hl1 : slC sl0 = (#[.int .u64 0, .int .u32 0, .int .u8 0, .int .u8 0, .int .u8 0, .int .u8 0, .int .u8 0, .int .u8 0, .int .u8 0, .int .u8 0, .int .u8 0, .int .u8 0, .int .u8 0, .int .u8 0, .int .u8 0, .int .u8 0, .int .u8 0, .int .u8 0, .int .u8 0, .int .u8 0, .int .u8 0, .int .u8 0, .int .u8 0, .int .u8 0, .int .u8 0, .int .u8 0, .int .u8 0, .int .u8 0, .int .u8 0, .int .u8 0, .int .u8 0, .int .u8 0, .int .u8 0, .int .u8 0] : Array Value) := by kernel_rfl
  have hl2 : suC su0 = Tryz.zeroCells48 := by kernel_rfl
  have he1 : ∀ w : World, (Op.equalIn 10000 43 (.agg (slC sl0)) (.agg #[.int .u64 0, .int .u32 0, .int .u8 0, .int .u8 0, .int .u8 0, .int .u8 0, .int .u8 0, .int .u8 0, .int .u8 0, .int .u8 0, .int .u8 0, .int .u8 0, .int .u8 0, .int .u8 0, .int .u8 0, .int .u8 0, .int .u8 0, .int .u8 0, .int .u8 0, .int .u8 0, .int .u8 0, .int .u8 0, .int .u8 0, .int .u8 0, .int .u8 0, .int .u8 0, .int .u8 0, .int .u8 0, .int .u8 0, .int .u8 0, .int .u8 0, .int .u8 0, .int .u8 0, .int .u8 0])).run Tryz.prog w = .ok true w := fun w => by
    rw [← hl1]
    exact (eq_slot sl0 sl0 w).trans (by rw [decide_eq_true rfl])
  have he2 : ∀ w : World, (Op.equalIn 10000 48 (.agg (suC su0)) (.agg Tryz.zeroCells48)).run Tryz.prog w = .ok true w := fun w => by
    rw [← hl2]
    exact (eq_sup 9995 su0 su0 w).trans (by rw [decide_eq_true rfl])
  clear hl1 hl2
  go_enter Tryz.func3, Tryz.ntmps3
  go_wp2_with fail
  refine (stNew_nil W).mono ?_
  rintro e _ ⟨rfl, rfl⟩
  go_wp2_with fail
  refine (HBg.out W).mono ?_
  rintro e w1 ⟨B, g, c, mc, rg, mr, xg, mf, ml, mm, rm, st, lg, F, q, v, qq, cq, t, m, s, a, b, rfl, hB⟩
  have r0 : Blk (w1.alloc (.cells (sdC none none none none none 0 0) 32)) w1.heap.size 32 (sdC none none none none none 0 0) := Blk.new _ _ _
  have hb2 : Below w1.heap.size w1 ((w1.alloc (.cells (sdC none none none none none 0 0) 32)).setRow w1.heap.size (sdC (some g) (some rg) (some st) (some a) (some b) 3 ((64 : Nat) : Int))) := below_setRow (below_new1 _ _) (Nat.le_refl _) _
  have HS : Hid (Blk ((w1.alloc (.cells (sdC none none none none none 0 0) 32)).setRow w1.heap.size (sdC (some g) (some rg) (some st) (some a) (some b) 3 ((64 : Nat) : Int))) w1.heap.size 32 (sdC (some g) (some rg) (some st) (some a) (some b) 3 ((64 : Nat) : Int)) ∧ Blk ((w1.alloc (.cells (sdC none none none none none 0 0) 32)).setRow w1.heap.size (sdC (some g) (some rg) (some st) (some a) (some b) 3 ((64 : Nat) : Int))) st 62 (stC (some ⟨rg, 0, none⟩) (some ⟨c, 0, none⟩) (1, s) (suFr 64 t m) (some ⟨rm, 0, none⟩) (some ⟨xg, 0, none⟩) qq 1 cq false) ∧ Below W.heap.size W ((w1.alloc (.cells (sdC none none none none none 0 0) 32)).setRow w1.heap.size (sdC (some g) (some rg) (some st) (some a) (some b) 3 ((64 : Nat) : Int)))) := ⟨r0.set _, hB.st.below hb2 hB.st.lt, hB.below.trans (hb2.mono hB.below.size)⟩
  clear hB hb2 HBg
  go_upto_region 4 with (first
    | (refine wpList_store_row (by rfl) 32 _ _ (by rfl) (w1.heap.size) ((sdC (some g) (some rg) (some st) (some a) (some b) 3 ((64 : Nat) : Int))) (by rfl) (by rfl) 32 (_) (by exact r0) (sizeSd.trans (by rw [sdC_size])) (by simp only [sdC_size]) (sdC_all _ _ _ _ _ _ _) ?_; simp only [Act.put, List.setIfInBounds_toArray, List.set_cons_zero, List.set_cons_succ])
    | fail)
  clear r0 hz
  generalize ((w1.alloc (.cells (sdC none none none none none 0 0) 32)).setRow w1.heap.size (sdC (some g) (some rg) (some st) (some a) (some b) 3 ((64 : Nat) : Int))) = w2 at *
  generalize w1.heap.size = a1 at *
  go_wp2_with fail
  refine (awake21_any w2).mono ?_
  rintro e w3 ⟨rfl, hb3⟩
  have HS3 : Hid (Blk w3 a1 32 (sdC (some g) (some rg) (some st) (some a) (some b) 3 ((64 : Nat) : Int)) ∧ Blk w3 st 62 (stC (some ⟨rg, 0, none⟩) (some ⟨c, 0, none⟩) (1, s) (suFr 64 t m) (some ⟨rm, 0, none⟩) (some ⟨xg, 0, none⟩) qq 1 cq false) ∧ Below W.heap.size W w3) := ⟨HS.out.1.below hb3 HS.out.1.lt, HS.out.2.1.below hb3 HS.out.2.1.lt, HS.out.2.2.trans (hb3.mono HS.out.2.2.size)⟩
  clear HS hb3
  go_wp2_with fail
  refine (stSlot_nil w3).mono ?_
  rintro e w4 ⟨rfl, hb4⟩
  have HS4 : Hid (Blk w4 a1 32 (sdC (some g) (some rg) (some st) (some a) (some b) 3 ((64 : Nat) : Int)) ∧ Blk w4 st 62 (stC (some ⟨rg, 0, none⟩) (some ⟨c, 0, none⟩) (1, s) (suFr 64 t m) (some ⟨rm, 0, none⟩) (some ⟨xg, 0, none⟩) qq 1 cq false) ∧ Below W.heap.size W w4) := ⟨HS3.out.1.below hb4 HS3.out.1.lt, HS3.out.2.1.below hb4 HS3.out.2.1.lt, HS3.out.2.2.trans (hb4.mono HS3.out.2.2.size)⟩
  clear HS3 hb4
  go_wp2_with (first
    | (refine cm_build0 (by rfl) 43 (by rfl) (slC sl0) (by exact built_slot0) ?_; simp only [Act.put, List.setIfInBounds_toArray, List.set_cons_zero, List.set_cons_succ])
    | fail)
  refine (stRoot_nil w4).mono ?_
  rintro e w5 ⟨rfl, hb5⟩
  have HS5 : Hid (Blk w5 a1 32 (sdC (some g) (some rg) (some st) (some a) (some b) 3 ((64 : Nat) : Int)) ∧ Blk w5 st 62 (stC (some ⟨rg, 0, none⟩) (some ⟨c, 0, none⟩) (1, s) (suFr 64 t m) (some ⟨rm, 0, none⟩) (some ⟨xg, 0, none⟩) qq 1 cq false) ∧ Below W.heap.size W w5) := ⟨HS4.out.1.below hb5 HS4.out.1.lt, HS4.out.2.1.below hb5 HS4.out.2.1.lt, HS4.out.2.2.trans (hb5.mono HS4.out.2.2.size)⟩
  clear HS4 hb5
  go_wp2_with (first
    | (refine cm_build0 (by rfl) 48 (by rfl) (suC su0) (by exact built_super0) ?_; simp only [Act.put, List.setIfInBounds_toArray, List.set_cons_zero, List.set_cons_succ])
    | fail)
  refine (stStamp_nil w5).mono ?_
  rintro e _ ⟨rfl, rfl⟩
  go_wp2_with fail
  refine (stInodes_nil w5).mono ?_
  rintro e _ ⟨rfl, rfl⟩
  go_wp2_with fail
  refine (stRoom_nil w5).mono ?_
  rintro e _ ⟨rfl, rfl⟩
  go_wp2_with fail
  refine (stCache_nil w5).mono ?_
  rintro e _ ⟨rfl, rfl⟩
  go_wp2_with fail
  refine (stDead_nil w5).mono ?_
  rintro e _ ⟨rfl, rfl⟩
  go_wp2_with fail
  refine (stFits_nil w5).mono ?_
  rintro e _ ⟨rfl, rfl⟩
  go_wp2_with fail
  refine (stCommit_nil w5).mono ?_
  rintro e _ ⟨rfl, rfl⟩
  have c5 : w5.cell? ⟨a1, 2, none⟩ = some (.pointer (some ⟨st, 0, none⟩)) := HS5.out.1.cell 2
  go_wp2_with fail
  refine (stInodes_at w5 HS5.out.2.1).mono ?_
  rintro e _ ⟨rfl, rfl⟩
  go_wp2_with fail
  refine (stKeep_nil (some ⟨xg, 0, none⟩) w5).mono ?_
  rintro e _ ⟨rfl, rfl⟩
  go_wp2_with fail
  go_ret
  exact ⟨rfl, HS5.out.2.2⟩
end Go.Proofs.YtppagdmlfgialaaGreatDoor

namespace Go.Proofs.YtppagdmlfgialaaGreatDoor.commitNil
open Go.ChangeShapes Go.WideShapes Go.ChangeAt Go.RowKit Go.Joins Go.ChangeMaps
set_option linter.unusedVariables false

theorem own : ownKnob Tryz.prog.godebug = none := by kernel_rfl
abbrev L : List (String × DataW Unit) := [("math/bits.deBruijn64tab", Rows.laid_math_bits_deBruijn64tab)]

set_option maxRecDepth 100000 in
theorem lifted (os : Os) (started : os.Started) (H : Type) (enc : TypeId × Value → H) :
    ReturnsInHanded {} Tryz.checked os 3 .any (fun w args => (Rows.commitNilSpec.pre enc Tryz.prog Tryz.f3 [] false w args ∧ laidMetH Tryz.prog L w) ∧ sizedMet enc Tryz.prog Tryz.f3 (OpenSpec.ofChange Rows.commitNilSpec) false w args)
      (Rows.commitNilSpec.post enc Tryz.prog Tryz.f3 false true false false) := by
  refine returnsInHanded_of_change_and (C := Tryz.checked) (X := fun w _ => laidMetH Tryz.prog L w) (fun _ _ _ hh h => h.of_heap hh) own started (by kernel_rfl) Tryz.func3
    (ChangeSpec.witness_shaped (enc := enc) (C := Tryz.checked) (os := os) (X := fun w _ => laidMetH Tryz.prog L w) false (World.laidAll Tryz.prog os L) #[.int .i64 0] 8 (World.laidAll_os _ _ _) (World.shaped_of_ZipB (by kernel_rfl) (by kernel_rfl)) (by kernel_rfl) (by kernel_rfl) (by kernel_rfl)
      (by rw [MakeChecks.laidMetH_plain _ _ _ (by kernel_rfl)]; exact laidMet_laidAll _ (by kernel_rfl) (by kernel_rfl))) ?_
  intro W base args ds gs before hval0 hW _ hsz0 hL _
  have hval : ∀ (j : Nat) t v, Tryz.f3.params[j]? = some t → args[j]? = some v → Value.okWide Tryz.prog W .any base t v := hval0
  have hW' := hW
  obtain ⟨p, q, hA0, hV, rfl, hfz, hnd⟩ := hW
  have hA : DataW.TrodAll enc Tryz.prog W 0 (fun _ => true) true Tryz.f3.params.toList args.toList ds p := hA0
  rw [Tryz.params3] at hA hval
  obtain ⟨v0, vs0, d0, ds0, p0, q0, hargs, rfl, rfl, h0, r0⟩ := trodAll_cons hA
  obtain ⟨rfl, rfl, rfl⟩ := trodAll_nil r0
  obtain rfl : args = #[v0] := by cases args; simp_all
  obtain ⟨rfl, rfl⟩ := trodVars_none hV
  obtain ⟨a0, rfl, rfl, rfl, w0⟩ := open_int Tryz.underlying3 (hval 0 3 v0 rfl rfl) h0
  clear hA0 hval0
  simp only [List.append_nil] at hW'
  refine (commitNilLaw a0 W).mono fun e W' ⟨he, hg⟩ => ?_
  subst he
  exact ⟨_, rfl, _, _, _, [], _, [], hW', trodAll_mk1 (shut_bool Tryz.underlying4 _), trodAll_cons_mk (shut_int Tryz.underlying3 w0) trodAll_mk0, rfl, hg.frame _, fun h => by cases h⟩

set_option maxHeartbeats 40000000 in
theorem closed : joinedFacts Tryz.prog 3 Tryz.f3 Rows.commitNilSpec Rows.commitNilRow = true := by
  unfold joinedFacts
  repeat' (with_reducible refine Eq.mpr (Bool.and_eq_true _ _) ⟨?_, ?_⟩)
  all_goals (as_aux_lemma => kernel_rfl)
theorem over : Rows.commitNilRow.holds Tryz.pinned (OpenSpec.ofChange Rows.commitNilSpec) :=
  OpenClaim.holds_of_wide 3 Tryz.f3 rfl rfl rfl rfl rfl rfl rfl ⟨rfl, rfl, rfl, rfl, rfl⟩ rfl rfl rfl rfl rfl (by kernel_rfl) Tryz.func3 closed
    (of_decide_eq_true (by kernel_rfl)) (by unfold Func.isWrapper; first | (rw [if_pos (by decide +kernel)]; kernel_rfl) | (rw [if_neg (by decide +kernel)]; exact ⟨rfl, rfl⟩))
    (fun os started H enc _ => lifted os started H enc)
end Go.Proofs.YtppagdmlfgialaaGreatDoor.commitNil
