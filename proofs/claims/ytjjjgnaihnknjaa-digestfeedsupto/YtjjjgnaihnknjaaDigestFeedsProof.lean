/- Proved: for all tags and parts that hold together at most 1048576 values and letters the statement DigestFeeds, called with them, returns true, and they read behind the call as they did before. -/
import Derived.Test.YtjjjgnaihnknjaaRows
import Derived.WalkKit
import Derived.ProofKit
import Derived.OpenShut
import Derived.Carry
import Derived.SliceStrings
import Derived.Lib.SmallJoins
import Derived.Test.YtjjjgnaihnknjaaFeedsUse
namespace Go.Proofs.Ytjjjgnaihnknjaa.digestFeeds
open Go.ChangeShapes Go.WideShapes Go.ChangeAt Go.RowKit Go.Joins
set_option linter.unusedVariables false

theorem own : ownKnob Try.prog.godebug = none := by kernel_rfl
theorem laidOut : laidOutB Try.prog = true := by kernel_rfl

/-- how many letters -/
def lettersB (l : List ByteArray) : Nat := (l.map (·.size)).sum
theorem pre_letters (l : List ByteArray) : ∀ i, i ≤ l.length → (preB l i).size = lettersB (l.take i)
  | 0, _ => by simp [preB_zero, lettersB]
  | i + 1, h => by
    rw [preB_succ l i (by omega), size_app, pre_letters l i (by omega)]
    have e : l.take (i + 1) = l.take i ++ [l.getD i ByteArray.empty] := by
      rw [List.take_add_one, List.getElem?_eq_getElem (show i < l.length by omega)]
      simp [List.getD, List.getElem?_eq_getElem (show i < l.length by omega)]
    unfold lettersB
    rw [e, List.map_append, List.sum_append]
    simp
theorem bulk_strs {H : Type} (l : List ByteArray) : lettersB l + l.length = Rows.uptoBulkAll (strs (H := H) l) := by
  induction l with
  | nil => simp [lettersB, strs, Rows.uptoBulkAll]
  | cons s l ih =>
    have e : s.data.toList.length = s.size := Array.length_toList
    unfold lettersB at ih ⊢
    unfold strs at ih ⊢
    simp only [List.map_cons, List.sum_cons, List.length_cons, Rows.uptoBulkAll, Rows.uptoBulk]
    rw [← ih, e]
    omega
theorem cell_lt {w : World} {a : Addr} {v : Value} (h : w.cell? a = some v) : a.block < w.heap.size := by
  obtain ⟨e, n, hs, _⟩ := World.shape?_of_cell? h
  unfold World.shape? at hs
  cases hb : w.heap[a.block]? with
  | none => simp [hb] at hs
  | some o => exact (Array.getElem?_eq_some_iff.1 hb).1

/-- a slice of strings, nil or not, as the walk wants it; and what it weighs -/
theorem open_arg {H : Type} {enc : TypeId × Value → H} {W : World} {a0 : Option Addr} {len cap fuel : Nat} {x : DataW H × List MemPlace}
    (hf : DataW.trod enc Try.prog W 0 (fun _ => true) true fuel 45 [.slice a0 len cap] = some x) :
    ∃ l : List ByteArray, l.length = len ∧ IsStrs W a0 l ∧ lettersB l + l.length ≤ Rows.uptoBulk x.1 := by
  rcases open_strings Try.underlying45 Try.underlying9 (show Try.prog.cellsOf 9 = 1 by kernel_rfl) hf with ⟨hcs, hx⟩ | ⟨a, len', cap', ss, hcs, _, hl, hm, hz, hx, hcell, _⟩
  · simp at hcs
    obtain ⟨rfl, rfl, rfl⟩ := hcs
    exact ⟨[], rfl, fun i hi => absurd hi (by simp), by simp [lettersB]⟩
  · simp at hcs
    obtain ⟨rfl, rfl, rfl⟩ := hcs
    subst hx
    simp only [if_true] at hz
    refine ⟨ss.take len, by simp; omega, fun i hi => ?_, ?_⟩
    · have hi' : i < len := by simp at hi; omega
      obtain ⟨b, off, spot⟩ := a
      have hspot : spot = none := by simpa [Addr.add] using World.cell?_spot (hcell 0 (by omega))
      subst hspot
      refine ⟨b, off, rfl, cell_lt (hcell 0 (by omega)), ?_⟩
      have h := hcell i (by omega)
      rw [Addr.add_mid] at h
      rw [h]
      simp [List.getD, List.getElem?_take_of_lt hi']
    · rw [bulk_strs (H := H)]
      simp only [Rows.uptoBulk]
      omega

theorem walk (W : World) (a0 a1 a2 : Option Addr) (len0 cap0 cap1 cap2 : Nat) (zs : List Int) (l1 l2 : List ByteArray)
    (ht : 2 ≤ len0 → ∃ b o, a0 = some ⟨b, o, none⟩ ∧ W.cell? ⟨b, o, none⟩ = some (.int .u8 (zs.getD 0 0)) ∧ W.cell? ⟨b, o + 1, none⟩ = some (.int .u8 (zs.getD 1 0)) ∧ (0 ≤ zs.getD 0 0 ∧ zs.getD 0 0 < 256) ∧ (0 ≤ zs.getD 1 0 ∧ zs.getD 1 0 < 256))
    (h1 : IsStrs W a1 l1) (h2 : IsStrs W a2 l2) (z1 : lettersB l1 + l1.length ≤ 1048576) (z2 : lettersB l2 + l2.length ≤ 1048576) :
    Calls Try.prog 5 #[.slice a0 len0 cap0, .slice a1 l1.length cap1, .slice a2 l2.length cap2] W fun e w' => e = .returned (.bool true) ∧ Below W.heap.size W w' := by
  have e1 := pre_letters l1 l1.length (Nat.le_refl _)
  have e2 := pre_letters l2 l2.length (Nat.le_refl _)
  rw [List.take_length] at e1 e2
  by_cases hlt : 2 ≤ len0
  · obtain ⟨b, o, rfl, c0, c1, ⟨p0, p1⟩, ⟨q0, q1⟩⟩ := ht hlt
    obtain ⟨p, hp⟩ : ∃ p : Nat, zs.getD 0 0 = (p : Int) := ⟨(zs.getD 0 0).toNat, by omega⟩
    obtain ⟨q, hq⟩ : ∃ q : Nat, zs.getD 1 0 = (q : Int) := ⟨(zs.getD 1 0).toNat, by omega⟩
    rw [hp] at c0 p0 p1
    rw [hq] at c1 q0 q1
    exact feeds1 W p q (by omega) (by omega) b o len0 cap0 hlt c0 c1 a1 a2 cap1 cap2 l1 l2 h1 h2 (by omega) (by omega) (by omega) (by omega)
  · exact feeds0 W a0 len0 cap0 (by omega) a1 a2 cap1 cap2 l1 l2 h1 h2 (by omega) (by omega) (by omega) (by omega)

set_option maxRecDepth 100000 in
theorem contract (H : Type) (enc : TypeId × Value → H) (W : World) (base : Nat) (args : Array Value) (ds gs : List (DataW H)) (before : List MemPlace)
    (hval : ∀ (j : Nat) t v, Try.f5.params[j]? = some t → args[j]? = some v → Value.okWide Try.prog W .any base t v)
    (hW : DataW.Whole enc Try.prog Try.f5.params.toList Rows.digestFeedsSpec.vars false W args.toList ds gs before) (hk : Rows.uptoSmall H (ds ++ gs) = true) :
    Calls Try.prog 5 args W fun e W' => ∃ v, e = .returned v ∧ Rows.digestFeedsSpec.post enc Try.prog Try.f5 false true false false W args v W' := by
  have hW' := hW
  obtain ⟨p, q, hA0, hV, rfl, hfz, hnd⟩ := hW
  have hA : DataW.TrodAll enc Try.prog W 0 (fun _ => true) true Try.f5.params.toList args.toList ds p := hA0
  rw [Try.params5] at hA hval
  obtain ⟨v0, vs0, d0, ds0, p0, q0, hargs, rfl, rfl, h0, r0⟩ := trodAll_cons hA
  obtain ⟨v1, vs1, d1, ds1, p1, q1, rfl, rfl, rfl, h1, r1⟩ := trodAll_cons r0
  obtain ⟨v2, vs2, d2, ds2, p2, q2, rfl, rfl, rfl, h2, r2⟩ := trodAll_cons r1
  obtain ⟨rfl, rfl, rfl⟩ := trodAll_nil r2
  obtain rfl : args = #[v0, v1, v2] := by cases args; simp_all
  obtain ⟨rfl, rfl⟩ := trodVars_none hV
  obtain ⟨a0, len0, cap0, rfl⟩ := okWide_slice Try.underlying44 (hval 0 44 v0 rfl rfl)
  obtain ⟨a1, len1, cap1, rfl⟩ := okWide_slice Try.underlying45 (hval 1 45 v1 rfl rfl)
  obtain ⟨a2, len2, cap2, rfl⟩ := okWide_slice Try.underlying45 (hval 2 45 v2 rfl rfl)
  have k0 := h0
  have k1 := h1
  have k2 := h2
  have lt0 : ∀ x ∈ p0, x.block < W.heap.size := by obtain ⟨m, hm⟩ := k0; exact DataW.trod_lt m _ _ _ hm
  have lt1 : ∀ x ∈ p1, x.block < W.heap.size := by obtain ⟨m, hm⟩ := k1; exact DataW.trod_lt m _ _ _ hm
  have lt2 : ∀ x ∈ p2, x.block < W.heap.size := by obtain ⟨m, hm⟩ := k2; exact DataW.trod_lt m _ _ _ hm
  obtain ⟨zs, ht⟩ : ∃ zs : List Int, 2 ≤ len0 → ∃ b o, a0 = some ⟨b, o, none⟩ ∧ W.cell? ⟨b, o, none⟩ = some (.int .u8 (zs.getD 0 0)) ∧ W.cell? ⟨b, o + 1, none⟩ = some (.int .u8 (zs.getD 1 0)) ∧ (0 ≤ zs.getD 0 0 ∧ zs.getD 0 0 < 256) ∧ (0 ≤ zs.getD 1 0 ∧ zs.getD 1 0 < 256) := by
    obtain ⟨fuel, hf⟩ := h0
    rcases ChangeShapes.open_ints Try.underlying44 Try.underlying5 (show Try.prog.cellsOf 5 = 1 by kernel_rfl) hf with ⟨hcs, _⟩ | ⟨x, l, c, zs, hcs, _, hl, hm, hz, _, hcell, hwz⟩
    · simp [Value.cells] at hcs
      obtain ⟨rfl, rfl, rfl⟩ := hcs
      exact ⟨[], fun h => absurd h (by omega)⟩
    · simp [Value.cells] at hcs
      obtain ⟨rfl, rfl, rfl⟩ := hcs
      simp only [if_true] at hz
      refine ⟨zs, fun h2 => ?_⟩
      obtain ⟨b, off, spot⟩ := x
      have hspot : spot = none := by simpa [Addr.add] using World.cell?_spot (hcell 0 (by omega))
      subst hspot
      have c0 := hcell 0 (by omega)
      have c1 := hcell 1 (by omega)
      rw [Addr.add_mid] at c0 c1
      have g : ∀ i, i < zs.length → 0 ≤ zs.getD i 0 ∧ zs.getD i 0 < 256 := fun i hi => by
        have hb := bounds_u8 (hwz (zs.getD i 0) (by rw [List.getD_eq_getElem?_getD, List.getElem?_eq_getElem hi]; exact List.getElem_mem hi))
        omega
      exact ⟨b, off, rfl, c0, c1, g 0 (by omega), g 1 (by omega)⟩
  obtain ⟨l1, hl1, s1, w1⟩ : ∃ l : List ByteArray, l.length = len1 ∧ IsStrs W a1 l ∧ lettersB l + l.length ≤ Rows.uptoBulk d1 := by
    obtain ⟨fuel, hf⟩ := h1
    exact open_arg hf
  obtain ⟨l2, hl2, s2, w2⟩ : ∃ l : List ByteArray, l.length = len2 ∧ IsStrs W a2 l ∧ lettersB l + l.length ≤ Rows.uptoBulk d2 := by
    obtain ⟨fuel, hf⟩ := h2
    exact open_arg hf
  subst hl1 hl2
  have hbk : Rows.uptoBulkAll ([d0, d1, d2] ++ []) ≤ 1048576 := of_decide_eq_true hk
  simp only [List.append_nil, Rows.uptoBulkAll] at hbk
  clear hA0
  simp only [List.append_nil] at hW'
  refine (walk W a0 a1 a2 len0 cap0 cap1 cap2 zs l1 l2 ht s1 s2 (by omega) (by omega)).mono fun e W' ⟨he, bel⟩ => ?_
  subst he
  exact ⟨_, rfl, _, _, _, [], _, [], hW', trodAll_mk1 (shut_bool Try.underlying4 _),
    (trodAll_cons_mk (Below.trod laidOut (by kernel_rfl) (of_decide_eq_true (by kernel_rfl)) k0 bel lt0) (trodAll_cons_mk (Below.trod laidOut (by kernel_rfl) (of_decide_eq_true (by kernel_rfl)) k1 bel lt1) (trodAll_cons_mk (Below.trod laidOut (by kernel_rfl) (of_decide_eq_true (by kernel_rfl)) k2 bel lt2) trodAll_mk0))), rfl, bel.frame _, fun h => by cases h⟩

set_option maxRecDepth 100000 in
theorem lifted (os : Os) (started : os.Started) (H : Type) (enc : TypeId × Value → H) (F : Stop.Interp) :
    ReturnsInHanded {} Try.checked os 5 .any ((Rows.OpenSpec.upto Rows.digestFeedsSpec).pre6 enc Try.prog Try.f5 Rows.digestFeedsUptoRow.domain false) (((Rows.OpenSpec.upto Rows.digestFeedsSpec).at F).post enc Try.prog Try.f5 false true false false) := by
  refine returnsInHanded_of_cond (C := Try.checked) (s := Rows.OpenSpec.upto Rows.digestFeedsSpec) (k := Rows.uptoSmall) rfl own started (by kernel_rfl) Try.func5
    (OpenSpec.witness (enc := enc) (C := Try.checked) (s := Rows.OpenSpec.upto Rows.digestFeedsSpec) (k := Rows.uptoSmall) rfl false ⟨#[], #[.slice none 0 0, .slice none 0 0, .slice none 0 0], []⟩ 8 (by kernel_rfl) (by kernel_rfl) (by kernel_rfl)
      (x := ([.nil, .nil, .nil], [], [])) (by kernel_rfl) rfl (by kernel_rfl)) ?_
  intro W base args ds gs before hval hW _ hk _
  exact contract H enc W base args ds gs before hval hW hk

theorem over : Rows.DigestFeedsUptoSaid :=
  OpenClaim.holds_of_cond 5 Try.f5 rfl rfl rfl rfl rfl rfl rfl ⟨rfl, rfl, rfl, rfl, rfl⟩ rfl rfl rfl rfl rfl (by kernel_rfl) Try.func5 (by kernel_rfl)
    (of_decide_eq_true (by kernel_rfl)) (by unfold Func.isWrapper; first | (rw [if_pos (by decide +kernel)]; kernel_rfl) | (rw [if_neg (by decide +kernel)]; exact ⟨rfl, rfl⟩))
    (fun os started H enc _ F => lifted os started H enc F)
end Go.Proofs.Ytjjjgnaihnknjaa.digestFeeds

namespace Go.Proofs.Ytjjjgnaihnknjaa
theorem digestFeeds_holds : Rows.DigestFeedsUptoSaid := digestFeeds.over
#print axioms digestFeeds_holds
end Go.Proofs.Ytjjjgnaihnknjaa
