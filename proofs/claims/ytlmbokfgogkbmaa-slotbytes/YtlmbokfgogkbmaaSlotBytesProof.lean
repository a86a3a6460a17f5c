/- Proved: for every two slots and every text the statement SlotBytes, called with them, returns true, and they read behind the call as they did before. No conditions. -/
import Derived.Test.YtlmbokfgogkbmaaRows
import Derived.WalkKit
import Derived.ProofKit
import Derived.OpenShut
import Derived.Lib.SmallJoins
import Derived.Carry
import Derived.Deep.Slices
import Derived.Test.YtlmbokfgogkbmaaHMathCount
import Derived.SizedLaws
import Derived.Test.YtlmbokfgogkbmaaHBlkNum
import Derived.Test.YtlmbokfgogkbmaaHSlBytesLaw
namespace Go.Proofs.Ytlmbokfgogkbmaa.slotBytes
open Go.ChangeShapes Go.WideShapes Go.ChangeAt Go.RowKit Go.Joins
open Go.ChangeMaps (open_string shut_string)
set_option linter.unusedVariables false

theorem own : ownKnob Try.prog.godebug = none := by kernel_rfl
theorem laidOut : laidOutB Try.prog = true := by kernel_rfl


theorem walk (w : World) (s0 : Sl) (wc0 : s0.1 < 18446744073709551616) (wa0 : s0.2.1 < 4294967296) (wb0 : ∀ i, i < 32 → dF s0.2.2 i < 256) (s1 : Sl) (wc1 : s1.1 < 18446744073709551616) (wa1 : s1.2.1 < 4294967296) (wb1 : ∀ i, i < 32 → dF s1.2.2 i < 256) (s2 : ByteArray) (h2s : s2.size ≤ maxLen) (z2 : s2.size ≤ 140737488351232) :
    Calls Try.prog 4 #[.agg (slC s0), .agg (slC s1), .string s2] w fun e w' => e = .returned (.bool true) ∧ Below w.heap.size w w' := by
  exact slotBytesLaw s0 s1 s2 wc0 wa0 w

set_option maxRecDepth 100000 in
theorem lifted (os : Os) (started : os.Started) (H : Type) (enc : TypeId × Value → H) :
    ReturnsInHanded {} Try.checked os 4 .any (Rows.slotBytesSpec.pre6 enc Try.prog Try.f4 Rows.slotBytesRow.domain false) (Rows.slotBytesSpec.post enc Try.prog Try.f4 false true false false) := by
  refine returnsInHanded_of_change_sized (C := Try.checked) own started (by kernel_rfl) Try.func4
    (ChangeSpec.witness6 (enc := enc) (C := Try.checked) false ⟨#[], #[.agg (slC sl0), .agg (slC sl0), .string ByteArray.empty], []⟩ 8 (by kernel_rfl) (by kernel_rfl) (by kernel_rfl) (by kernel_rfl)) ?_
  intro W base args ds gs before hval0 hW hcnd hsz0 _
  have hval : ∀ (j : Nat) t v, Try.f4.params[j]? = some t → args[j]? = some v → Value.okWide Try.prog W .any base t v := hval0
  have hW' := hW
  obtain ⟨p, q, hA0, hV, rfl, hfz, hnd⟩ := hW
  have hA : DataW.TrodAll enc Try.prog W 0 (fun _ => true) true Try.f4.params.toList args.toList ds p := hA0
  rw [Try.params4] at hA hval hsz0
  obtain ⟨v0, vs0, d0, ds0, p0, q0, hargs, rfl, rfl, h0, r0⟩ := trodAll_cons hA
  obtain ⟨v1, vs1, d1, ds1, p1, q1, rfl, rfl, rfl, h1, r1⟩ := trodAll_cons r0
  obtain ⟨v2, vs2, d2, ds2, p2, q2, rfl, rfl, rfl, h2, r2⟩ := trodAll_cons r1
  obtain ⟨rfl, rfl, rfl⟩ := trodAll_nil r2
  obtain rfl : args = #[v0, v1, v2] := by cases args; simp_all
  obtain ⟨rfl, rfl⟩ := trodVars_none hV
  have k0 := h0
  have lt0 : ∀ x ∈ p0, x.block < W.heap.size := by obtain ⟨m, hm⟩ := k0; exact DataW.trod_lt m _ _ _ hm
  have k1 := h1
  have lt1 : ∀ x ∈ p1, x.block < W.heap.size := by obtain ⟨m, hm⟩ := k1; exact DataW.trod_lt m _ _ _ hm
  have k2 := h2
  have lt2 : ∀ x ∈ p2, x.block < W.heap.size := by obtain ⟨m, hm⟩ := k2; exact DataW.trod_lt m _ _ _ hm
  obtain ⟨s0, rfl, wc0, wa0, wb0⟩ := open_slot (hval 0 50 v0 rfl rfl) h0
  obtain ⟨s1, rfl, wc1, wa1, wb1⟩ := open_slot (hval 1 50 v1 rfl rfl) h1
  obtain ⟨s2, rfl, rfl, rfl, h2s⟩ := open_string Try.underlying9 (hval 2 9 v2 rfl rfl) h2
  have z2 : s2.size ≤ 140737488351232 := by
    have := sized_string hsz0 (j := 2) (t := 9) rfl rfl
    have e : s2.size = s2.data.toList.length := (Array.length_toList).symm
    rw [e]
    exact this
  clear hA0 hval0
  simp only [List.append_nil] at hW'

  refine (walk W s0 wc0 wa0 wb0 s1 wc1 wa1 wb1 s2 h2s z2).mono fun e W' ⟨he, hg⟩ => ?_
  subst he
  exact ⟨_, rfl, _, _, _, [], _, [], hW', trodAll_mk1 (shut_bool Try.underlying4 _), (trodAll_cons_mk (Below.trod laidOut (by kernel_rfl) (of_decide_eq_true (by kernel_rfl)) k0 hg lt0) (trodAll_cons_mk (Below.trod laidOut (by kernel_rfl) (of_decide_eq_true (by kernel_rfl)) k1 hg lt1) (trodAll_cons_mk (Below.trod laidOut (by kernel_rfl) (of_decide_eq_true (by kernel_rfl)) k2 hg lt2) trodAll_mk0))), rfl, hg.frame _, fun h => by cases h⟩

theorem over : Rows.slotBytesRow.holds Try.pinned (OpenSpec.ofChange Rows.slotBytesSpec) :=
  OpenClaim.holds_of_wide 4 Try.f4 rfl rfl rfl rfl rfl rfl rfl ⟨rfl, rfl, rfl, rfl, rfl⟩ rfl rfl rfl rfl rfl (by kernel_rfl) Try.func4 (by kernel_rfl)
    (of_decide_eq_true (by kernel_rfl)) (by unfold Func.isWrapper; first | (rw [if_pos (by decide +kernel)]; kernel_rfl) | (rw [if_neg (by decide +kernel)]; exact ⟨rfl, rfl⟩))
    (fun os started H enc _ => lifted os started H enc)
end Go.Proofs.Ytlmbokfgogkbmaa.slotBytes

namespace Go.Proofs.Ytlmbokfgogkbmaa
theorem slotBytes_holds : Rows.SlotBytesSaid := slotBytes.over
#print axioms slotBytes_holds
end Go.Proofs.Ytlmbokfgogkbmaa
