/- The document's answer for roots: MapLeaves, Check, Fits; a root as the document has it. -/
import Derived.Test.YtalnfphlhcojcaaHSuSize
import Derived.BigQuiet
import Derived.Deep.QuietTactic
import Derived.Handy
import Derived.Test.YtalnfphlhcojcaaHNdKit
import Derived.Test.YtalnfphlhcojcaaRows
import Derived.WalkKit
import Derived.ProofKit
import Derived.OpenShut
import Derived.WalkSpells
import Derived.Below
import Derived.Laws.BitsAllLaws
import Derived.Laws.Bits64
import Derived.Laws.BytesArg
import Derived.Deep.RegionLaw
import Derived.Laws.CopyOwn
import Derived.Deep.DeepCutAuto
import Derived.Deep.Cut
import Derived.Lib.ConvBytes

namespace Go.Proofs.Ytalnfphlhcojcaa
open Go Go.RowKit
set_option linter.unusedSimpArgs false
set_option linter.unusedVariables false
set_option maxRecDepth 20000
theorem su_wrap (i : Nat) (h : i < 18446744073709551616) : IntKind.u64.wrap (i : Int) = (i : Int) := by
  rw [IntKind.wrap_u64]
  omega
theorem su_dN {B : Nat} {w0 w : World} (h : Below B w0 w) (n : Nat) : Below B w0 (w.drewN n) := ⟨h.1, h.2, h.3, h.4, h.5⟩
def rBl (b : Int) : Bool := decide (16 ≤ b) && decide (b ≤ 8192)
def onD (a : Nat) (b : Int) : Bool := decide (a ≠ 0) && decide ((a : Int) < b)
def sDisk (x : Sup) : Bool := rBl x.b && (decide (3 ≤ x.u) && decide (x.u < x.b))
def sHgt (x : Sup) : Bool := (decide (1 ≤ x.n) && decide (x.n ≤ 4096)) && (decide (x.th = hL 4 x.n) && decide (x.mh = hL 1024 x.b))
def sPl (x : Sup) : Bool := onD x.tr.1 x.b && (onD x.mr.1 x.b && decide (x.tr.1 ≠ x.mr.1))
def sck (x : Sup) : Bool := sDisk x && (sHgt x && sPl x)
def scE (x : Sup) : Int := if sck x = true then 0 else 200
theorem rBl_iff (b : Int) : rBl b = true ↔ 16 ≤ b ∧ b ≤ 8192 := by unfold rBl; simp
theorem sDisk_b (x : Sup) (h : sDisk x = true) : 16 ≤ x.b ∧ x.b ≤ 8192 := by
  unfold sDisk at h
  rw [Bool.and_eq_true] at h
  exact (rBl_iff _).1 h.1
set_option maxHeartbeats 4000000 in
theorem rightBlocks_any (b : Int) (w : World) : Calls Try.prog 34 #[.int .i64 b] w fun e w' => e = .returned (.bool (rBl b)) ∧ w' = w := by
  have HO : Hid (rBl b = (decide (16 ≤ b) && decide (b ≤ 8192))) := rfl
  generalize rBl b = B at *
  by_cases h : 16 ≤ b
  · go_enter Try.func34, Try.ntmps34
    go_wp2_with fail
    go_ret
    exact ⟨by rw [HO.out]; simp [h], rfl⟩
  · go_enter Try.func34, Try.ntmps34
    go_wp2_with fail
    go_ret
    exact ⟨by rw [HO.out]; simp [h]; omega, rfl⟩
set_option maxHeartbeats 4000000 in
theorem onDisk_any (a : Nat) (b : Int) (ha : a < 4294967296) (hb : 0 ≤ b) (hb2 : b ≤ 9223372036854775807) (w : World) : Calls Try.prog 36 #[.int .u32 (a : Int), .int .i64 b] w fun e w' => e = .returned (.bool (onD a b)) ∧ w' = w := by
  have HO : Hid (onD a b = (decide (a ≠ 0) && decide ((a : Int) < b))) := rfl
  generalize onD a b = B at *
  have h1 : IntKind.u64.wrap (a : Int) = (a : Int) := su_wrap a (by omega)
  have h2 : IntKind.u64.wrap b = b := by
    have := su_wrap b.toNat (by omega)
    rwa [show ((b.toNat : Nat) : Int) = b by omega] at this
  by_cases h : (a : Int) = 0
  · have h' : a = 0 := by omega
    go_enter Try.func36, Try.ntmps36
    go_wp2_with fail
    go_ret
    exact ⟨by rw [HO.out]; simp [h'], rfl⟩
  · have h' : ¬ a = 0 := by omega
    go_enter Try.func36, Try.ntmps36
    go_wp2_with fail
    go_ret
    exact ⟨by rw [HO.out]; simp [h'], rfl⟩
set_option maxHeartbeats 4000000 in
theorem mapHeight_any (b : Int) (w : World) : Calls Try.prog 13 #[.int .i64 b] w fun e w' => e = .returned (.tuple #[.int .i64 (if rBl b = true then hL 1024 b else 0), .int .i64 (if rBl b = true then 0 else 200)]) ∧ w' = w := by
  have HR : Hid (∀ w : World, Calls Try.prog 34 #[.int .i64 b] w fun e w' => e = .returned (.bool (rBl b)) ∧ w' = w) := rightBlocks_any b
  have HL : Hid (rBl b = true → ∀ w : World, Calls Try.prog 35 #[.int .i64 1024, .int .i64 b] w fun e w' => e = .returned (.int .i64 (hL 1024 b)) ∧ w' = w) := fun h => sleast1k b (by have := (rBl_iff b).1 h; omega) (by have := (rBl_iff b).1 h; omega)
  generalize rBl b = B at *
  generalize hL 1024 b = H at *
  cases B
  · go_enter Try.func13, Try.ntmps13
    go_wp2_with fail
    refine (HR.out _).mono ?_
    rintro e w2 ⟨rfl, rfl⟩
    go_wp2_with fail
    go_ret2
    exact ⟨rfl, rfl⟩
  · have HL' := HL.out rfl
    clear HL
    have HL : Hid (∀ w : World, Calls Try.prog 35 #[.int .i64 1024, .int .i64 b] w fun e w' => e = .returned (.int .i64 H) ∧ w' = w) := HL'
    clear HL'
    go_enter Try.func13, Try.ntmps13
    go_wp2_with fail
    refine (HR.out _).mono ?_
    rintro e w2 ⟨rfl, rfl⟩
    go_wp2_with fail
    refine (HL.out _).mono ?_
    rintro e w2 ⟨rfl, rfl⟩
    go_wp2_with fail
    go_ret2
    exact ⟨rfl, rfl⟩
set_option maxHeartbeats 4000000 in
theorem mapLeaves_any (b : Int) (w : World) : Calls Try.prog 14 #[.int .i64 b] w fun e w' => e = .returned (.tuple #[.int .i64 (if rBl b = true then (b + 1023) / 1024 else 0), .int .i64 (if rBl b = true then 0 else 200)]) ∧ w' = w := by
  have HR : Hid (∀ w : World, Calls Try.prog 34 #[.int .i64 b] w fun e w' => e = .returned (.bool (rBl b)) ∧ w' = w) := rightBlocks_any b
  by_cases h : 16 ≤ b ∧ b ≤ 8192
  · rw [(rBl_iff b).2 h] at *
    have HE : Hid ((b + 1024 - 1).tdiv 1024 = (b + 1023) / 1024) := by
      show (b + 1024 - 1).tdiv 1024 = (b + 1023) / 1024
      rw [Int.tdiv_eq_ediv_of_nonneg (by omega)]
      omega
    obtain ⟨h1, h2⟩ := h
    go_enter Try.func14, Try.ntmps14
    go_wp2_with fail
    refine (HR.out _).mono ?_
    rintro e w2 ⟨rfl, rfl⟩
    go_wp2_with fail
    go_ret2
    refine ⟨?_, rfl⟩
    first
    | (rw [← HE.out]; simp; done)
    | (have := HE.out; simp at this ⊢; omega)
  · have hf : rBl b = false := Bool.eq_false_iff.2 fun hh => h ((rBl_iff b).1 hh)
    rw [hf] at HR ⊢
    clear h hf
    go_enter Try.func14, Try.ntmps14
    go_wp2_with fail
    refine (HR.out _).mono ?_
    rintro e w2 ⟨rfl, rfl⟩
    go_wp2_with fail
    go_ret2
    exact ⟨rfl, rfl⟩
set_option maxHeartbeats 4000000 in
theorem rightDisk_any (x : Sup) (w : World) : Calls Try.prog 28 #[.agg (suC x)] w fun e w' => e = .returned (.bool (sDisk x)) ∧ Below w.heap.size w w' := by
  have r0 : Blk (w.alloc (.cells (suC x) 31)) w.heap.size 31 (suC x) := Blk.new _ _ _
  have HB : Hid (Below w.heap.size w (w.alloc (.cells (suC x) 31))) := below_new1 _ _
  have c0 := sup_c0 r0
  have c5 := sup_c71 r0
  have HR : Hid (∀ w : World, Calls Try.prog 34 #[.int .i64 x.b] w fun e w' => e = .returned (.bool (rBl x.b)) ∧ w' = w) := rightBlocks_any x.b
  have HO : Hid (sDisk x = (rBl x.b && (decide (3 ≤ x.u) && decide (x.u < x.b)))) := rfl
  generalize rBl x.b = R at *
  generalize sDisk x = B at *
  generalize x.b = b at *
  generalize x.u = u at *
  clear r0
  cases R
  · go_enter Try.func28, Try.ntmps28
    go_wp2_with fail
    refine (HR.out _).mono ?_
    rintro e w2 ⟨rfl, rfl⟩
    go_wp2_with fail
    go_ret
    exact ⟨by rw [HO.out]; simp, HB.out⟩
  · by_cases hu : 3 ≤ u
    · go_enter Try.func28, Try.ntmps28
      go_wp2_with fail
      refine (HR.out _).mono ?_
      rintro e w2 ⟨rfl, rfl⟩
      go_wp2_with fail
      go_ret
      exact ⟨by rw [HO.out]; simp [hu], HB.out⟩
    · go_enter Try.func28, Try.ntmps28
      go_wp2_with fail
      refine (HR.out _).mono ?_
      rintro e w2 ⟨rfl, rfl⟩
      go_wp2_with fail
      go_ret
      exact ⟨by rw [HO.out]; simp [hu]; omega, HB.out⟩
set_option maxHeartbeats 4000000 in
theorem rightHeights_any (x : Sup) (hx : SuW x) (hb : x.b ≤ 8192) (w : World) : Calls Try.prog 29 #[.agg (suC x)] w fun e w' => e = .returned (.bool (sHgt x)) ∧ Below w.heap.size w w' := by
  have r0 : Blk (w.alloc (.cells (suC x) 31)) w.heap.size 31 (suC x) := Blk.new _ _ _
  have HB : Hid (Below w.heap.size w (w.alloc (.cells (suC x) 31))) := below_new1 _ _
  have c0 := sup_c0 r0
  have c2 := sup_c2 r0
  have c36 := sup_c36 r0
  have c37 := sup_c37 r0
  have H4 : Hid (x.n ≤ 4096 → ∀ w : World, Calls Try.prog 35 #[.int .i64 4, .int .i64 x.n] w fun e w' => e = .returned (.int .i64 (hL 4 x.n)) ∧ w' = w) := fun h => sleast4 x.n hx.n.1 (by omega)
  have HK : Hid (∀ w : World, Calls Try.prog 35 #[.int .i64 1024, .int .i64 x.b] w fun e w' => e = .returned (.int .i64 (hL 1024 x.b)) ∧ w' = w) := sleast1k x.b hx.b.1 (by omega)
  have HO : Hid (sHgt x = ((decide (1 ≤ x.n) && decide (x.n ≤ 4096)) && (decide (x.th = hL 4 x.n) && decide (x.mh = hL 1024 x.b)))) := rfl
  generalize sHgt x = B at *
  clear r0 hb hx
  generalize hL 4 x.n = H1 at *
  generalize hL 1024 x.b = H2 at *
  generalize x.b = b at *
  generalize x.n = n at *
  generalize x.th = th at *
  generalize x.mh = mh at *
  by_cases h1 : 1 ≤ n
  · have h1' : ¬ n < 1 := by omega
    by_cases h2 : n ≤ 4096
    · have h2' : ¬ 4096 < n := by omega
      have H4' : Hid (∀ w : World, Calls Try.prog 35 #[.int .i64 4, .int .i64 n] w fun e w' => e = .returned (.int .i64 H1) ∧ w' = w) := H4.out h2
      clear H4
      by_cases ht : th = H1
      · subst ht
        go_enter Try.func29, Try.ntmps29
        go_wp2_with fail
        generalize (w.alloc (.cells (suC x) 31)) = w0 at *
        go_quiet (first | (go_at_call_of 35 (Value.int IntKind.i64 4); refine Calls.quiet_of_same (H4'.out _)) | (go_at_call_of 35 (Value.int IntKind.i64 1024); refine Calls.quiet_of_same (HK.out _)))
        go_wp2_with fail
        go_ret
        exact ⟨by rw [HO.out]; by_cases hm : mh = H2 <;> simp [h1, h2, hm], su_dN HB.out _⟩
      · go_enter Try.func29, Try.ntmps29
        go_wp2_with fail
        generalize (w.alloc (.cells (suC x) 31)) = w0 at *
        go_quiet (first | (go_at_call_of 35 (Value.int IntKind.i64 4); refine Calls.quiet_of_same (H4'.out _)) | (go_at_call_of 35 (Value.int IntKind.i64 1024); refine Calls.quiet_of_same (HK.out _)))
        go_wp2_with fail
        go_ret
        exact ⟨by rw [HO.out]; simp [h1, h2, ht], su_dN HB.out _⟩
    · have h2' : 4096 < n := by omega
      go_enter Try.func29, Try.ntmps29
      go_wp2_with fail
      go_ret
      exact ⟨by rw [HO.out]; simp [h2]; omega, HB.out⟩
  · have h1' : n < 1 := by omega
    go_enter Try.func29, Try.ntmps29
    go_wp2_with fail
    go_ret
    exact ⟨by rw [HO.out]; simp [h1]; omega, HB.out⟩
set_option maxHeartbeats 4000000 in
theorem rightPlaces_any (x : Sup) (hx : SuW x) (hb : 0 ≤ x.b) (w : World) : Calls Try.prog 30 #[.agg (suC x)] w fun e w' => e = .returned (.bool (sPl x)) ∧ Below w.heap.size w w' := by
  have r0 : Blk (w.alloc (.cells (suC x) 31)) w.heap.size 31 (suC x) := Blk.new _ _ _
  have HB : Hid (Below w.heap.size w (w.alloc (.cells (suC x) 31))) := below_new1 _ _
  have c0 := sup_c0 r0
  have c3 := sup_c3 r0
  have c38 := sup_c38 r0
  have H1 : Hid (∀ w : World, Calls Try.prog 36 #[.int .u32 (x.tr.1 : Int), .int .i64 x.b] w fun e w' => e = .returned (.bool (onD x.tr.1 x.b)) ∧ w' = w) := onDisk_any _ _ hx.ta hb hx.b.2
  have H2 : Hid (∀ w : World, Calls Try.prog 36 #[.int .u32 (x.mr.1 : Int), .int .i64 x.b] w fun e w' => e = .returned (.bool (onD x.mr.1 x.b)) ∧ w' = w) := onDisk_any _ _ hx.ma hb hx.b.2
  have HO : Hid (sPl x = (onD x.tr.1 x.b && (onD x.mr.1 x.b && decide (x.tr.1 ≠ x.mr.1)))) := rfl
  generalize sPl x = B at *
  clear r0 hb hx
  generalize onD x.tr.1 x.b = P1 at *
  generalize onD x.mr.1 x.b = P2 at *
  generalize x.b = b at *
  generalize x.tr.1 = n1 at *
  generalize x.mr.1 = n2 at *
  go_enter Try.func30, Try.ntmps30
  go_wp2_with fail
  have c0' := c0
  generalize (w.alloc (.cells (suC x) 31)) = w0 at *
  go_quiet (fail)
  cases P1
  · go_wp2_with fail
    refine (H1.out _).mono ?_
    rintro e w2 ⟨rfl, rfl⟩
    go_wp2_with fail
    go_ret
    exact ⟨by rw [HO.out]; simp, su_dN HB.out _⟩
  · cases P2
    · go_wp2_with fail
      refine (H1.out _).mono ?_
      rintro e w2 ⟨rfl, rfl⟩
      go_wp2_with fail
      refine (H2.out _).mono ?_
      rintro e w2 ⟨rfl, rfl⟩
      go_wp2_with fail
      go_ret
      exact ⟨by rw [HO.out]; simp, su_dN HB.out _⟩
    · by_cases hq : n1 = n2
      · subst hq
        go_wp2_with fail
        refine (H1.out _).mono ?_
        rintro e w2 ⟨rfl, rfl⟩
        go_wp2_with fail
        refine (H2.out _).mono ?_
        rintro e w2 ⟨rfl, rfl⟩
        go_wp2_with fail
        go_ret
        exact ⟨by rw [HO.out]; simp, su_dN HB.out _⟩
      · have hq' : ¬ (n1 : Int) = (n2 : Int) := by omega
        go_wp2_with fail
        refine (H1.out _).mono ?_
        rintro e w2 ⟨rfl, rfl⟩
        go_wp2_with fail
        refine (H2.out _).mono ?_
        rintro e w2 ⟨rfl, rfl⟩
        go_wp2_with fail
        go_ret
        exact ⟨by rw [HO.out]; simp [hq]; omega, su_dN HB.out _⟩
set_option maxHeartbeats 4000000 in
theorem scheck_any (x : Sup) (hx : SuW x) (w : World) : Calls Try.prog 10 #[.agg (suC x)] w fun e w' => e = .returned (.int .i64 (scE x)) ∧ Below w.heap.size w w' := by
  have r0 : Blk (w.alloc (.cells (suC x) 31)) w.heap.size 31 (suC x) := Blk.new _ _ _
  have HB0 : Hid (Below w.heap.size w (w.alloc (.cells (suC x) 31)) ∧ w.heap.size < (w.alloc (.cells (suC x) 31)).heap.size) := ⟨below_new1 _ _, by simp⟩
  have HL : Hid (∀ w, Calls Try.prog 28 #[.agg (suC x)] w fun e w' => e = .returned (.bool (sDisk x)) ∧ Below w.heap.size w w') := rightDisk_any x
  have HS : Hid (sDisk x = true → ∀ w, Calls Try.prog 29 #[.agg (suC x)] w fun e w' => e = .returned (.bool (sHgt x)) ∧ Below w.heap.size w w') := fun h => rightHeights_any x hx (sDisk_b x h).2
  have HT : Hid (sDisk x = true → ∀ w, Calls Try.prog 30 #[.agg (suC x)] w fun e w' => e = .returned (.bool (sPl x)) ∧ Below w.heap.size w w') := fun h => rightPlaces_any x hx (by have := (sDisk_b x h).1; omega)
  have HO : Hid (scE x = if (sDisk x && (sHgt x && sPl x)) = true then 0 else 200) := rfl
  generalize scE x = B at *
  generalize sDisk x = bl at *
  generalize sHgt x = bs at *
  generalize sPl x = bt at *
  go_enter Try.func10, Try.ntmps10
  go_wp2_with (first | (refine wpList_load_rowg (by rfl) 31 _ (by rfl) (w.heap.size) (by rfl) 31 (suC x) (0, 0) _ (by exact r0) Try.underlying31 (by rfl) (sizeSup.trans (by rw [suC_size])) ?_; simp only [Act.put, List.setIfInBounds_toArray, List.set_cons_zero, List.set_cons_succ]) | fail)
  generalize (w.alloc (.cells (suC x) 31)) = w0 at *
  refine (HL.out _).mono ?_
  intro e w1 hw1
  obtain ⟨he1, hb1⟩ := hw1
  subst he1
  have HB1 : Hid (Below w.heap.size w w1 ∧ w.heap.size < w1.heap.size) := ⟨HB0.out.1.trans (hb1.mono (by have := HB0.out.2; omega)), by have := HB0.out.2; have := hb1.size; omega⟩
  have r1 : Blk w1 w.heap.size 31 (suC x) := r0.below hb1 (HB0.out.2)
  clear hb1 HB0 r0
  cases bl
  · go_wp2_with fail
    go_ret
    exact ⟨by rw [HO.out]; rfl, HB1.out.1⟩
  · have HS' : Hid (∀ w, Calls Try.prog 29 #[.agg (suC x)] w fun e w' => e = .returned (.bool bs) ∧ Below w.heap.size w w') := HS.out rfl
    have HT' : Hid (∀ w, Calls Try.prog 30 #[.agg (suC x)] w fun e w' => e = .returned (.bool bt) ∧ Below w.heap.size w w') := HT.out rfl
    clear HS HT
    go_wp2_with (first | (refine wpList_load_rowg (by rfl) 31 _ (by rfl) (w.heap.size) (by rfl) 31 (suC x) (0, 0) _ (by exact r1) Try.underlying31 (by rfl) (sizeSup.trans (by rw [suC_size])) ?_; simp only [Act.put, List.setIfInBounds_toArray, List.set_cons_zero, List.set_cons_succ]) | fail)
    refine (HS'.out _).mono ?_
    intro e w2 hw2
    obtain ⟨he2, hb2⟩ := hw2
    subst he2
    have HB2 : Hid (Below w.heap.size w w2 ∧ w.heap.size < w2.heap.size) := ⟨HB1.out.1.trans (hb2.mono (by have := HB1.out.2; omega)), by have := HB1.out.2; have := hb2.size; omega⟩
    have r2 : Blk w2 w.heap.size 31 (suC x) := r1.below hb2 (HB1.out.2)
    clear hb2 HB1 r1
    cases bs
    · go_wp2_with fail
      go_ret
      exact ⟨by rw [HO.out]; rfl, HB2.out.1⟩
    · go_wp2_with (first | (refine wpList_load_rowg (by rfl) 31 _ (by rfl) (w.heap.size) (by rfl) 31 (suC x) (0, 0) _ (by exact r2) Try.underlying31 (by rfl) (sizeSup.trans (by rw [suC_size])) ?_; simp only [Act.put, List.setIfInBounds_toArray, List.set_cons_zero, List.set_cons_succ]) | fail)
      refine (HT'.out _).mono ?_
      intro e w3 hw3
      obtain ⟨he3, hb3⟩ := hw3
      subst he3
      have HB3 : Hid (Below w.heap.size w w3 ∧ w.heap.size < w3.heap.size) := ⟨HB2.out.1.trans (hb3.mono (by have := HB2.out.2; omega)), by have := HB2.out.2; have := hb3.size; omega⟩
      clear hb3 HB2 r2
      cases bt
      · go_wp2_with fail
        go_ret
        exact ⟨by rw [HO.out]; rfl, HB3.out.1⟩
      · go_wp2_with fail
        go_ret
        exact ⟨by rw [HO.out]; rfl, HB3.out.1⟩
end Go.Proofs.Ytalnfphlhcojcaa

namespace Go.Proofs.Ytalnfphlhcojcaa
open Go Go.RowKit
set_option linter.unusedSimpArgs false
set_option linter.unusedVariables false
set_option maxRecDepth 20000
theorem sck_all (x : Sup) (h : sck x = true) : (16 ≤ x.b ∧ x.b ≤ 8192) ∧ (3 ≤ x.u ∧ x.u < x.b) ∧ (1 ≤ x.n ∧ x.n ≤ 4096) ∧ (x.th = hL 4 x.n ∧ x.mh = hL 1024 x.b) ∧ (0 ≤ x.th ∧ x.th ≤ 6) ∧ (0 ≤ x.mh ∧ x.mh ≤ 6) ∧ (x.tr.1 ≠ 0 ∧ (x.tr.1 : Int) < x.b) ∧ (x.mr.1 ≠ 0 ∧ (x.mr.1 : Int) < x.b) ∧ x.tr.1 ≠ x.mr.1 := by
  unfold sck sDisk sHgt sPl rBl onD at h
  simp only [Bool.and_eq_true, decide_eq_true_eq] at h
  obtain ⟨⟨⟨a1, a2⟩, a3, a4⟩, ⟨⟨b1, b2⟩, b3, b4⟩, ⟨c1, c2⟩, ⟨c3, c4⟩, c5⟩ := h
  have q1 := hL_lt 4 x.n
  have q2 := hL_lt 1024 x.b
  exact ⟨⟨a1, a2⟩, ⟨a3, a4⟩, ⟨b1, b2⟩, ⟨b3, b4⟩, ⟨by omega, by omega⟩, ⟨by omega, by omega⟩, ⟨c1, c2⟩, ⟨c3, c4⟩, c5⟩
/-- what lies in the memory while Encode works: the root, the result, the block that grows -/
structure ES (w0 w : World) (x : Sup) (h : Nat) (F : Nat → Nat) : Prop where
  b : Below w0.heap.size w0 w
  x : Blk w w0.heap.size 31 (suC x)
  r : Blk w (w0.heap.size + 1) 33 (va 256 (iv .u8 fun _ => 0))
  f : Blk w h 33 (va 256 (iv .u8 F))
  lt : w0.heap.size + 1 < h
theorem ES.below {w0 w w' : World} {x : Sup} {h : Nat} {F : Nat → Nat} (e : ES w0 w x h F) (b : Below w.heap.size w w') : ES w0 w' x h F :=
  ⟨e.b.trans (b.mono e.b.size), e.x.below b e.x.lt, e.r.below b e.r.lt, e.f.below b e.f.lt, e.lt⟩
theorem ES.drew {w0 w : World} {x : Sup} {h : Nat} {F : Nat → Nat} (e : ES w0 w x h F) : ES w0 w.drew x h F := ⟨e.b.drew, e.x.drew, e.r.drew, e.f.drew, e.lt⟩
theorem ES.set {w0 w : World} {x : Sup} {h : Nat} {F : Nat → Nat} (e : ES w0 w x h F) (G : Nat → Nat) : ES w0 (w.setRow h (va 256 (iv .u8 G))) x h G :=
  ⟨below_setRow e.b (by have := e.lt; omega) _, e.x.other _ (by have := e.lt; omega), e.r.other _ (by have := e.lt; omega), e.f.set _, e.lt⟩
end Go.Proofs.Ytalnfphlhcojcaa

namespace Go.Proofs.Ytalnfphlhcojcaa
open Go Go.RowKit

/-- the plan of a region's walk -/
inductive Plan where
  | fin (takes : List Nat)
  | force (ts : List Nat) (i : Nat) (next : Plan)
  | yield (ts : List Nat) (i : Nat) (next : Plan)
  | fork (i j : Nat) (p q : Plan)
def Plan.len : Plan → Nat
  | .fin takes => takes.length
  | .force ts _ p => ts.length + (1 + p.len)
  | .yield ts _ p => ts.length + (1 + p.len)
  | .fork _ _ p _ => p.len + 1
/-- the check -/
def Plan.ok (ops : Array Oper) : Plan → Array Bool → Bool
  | .fin takes, listed => match takesB .any ops [] [] takes listed with
    | some l => (Region.ready .any ops l).isEmpty
    | none => false
  | .force ts i p, listed => match takesB .any ops [] [] ts listed with
    | some l => forceW .any ops l i && p.ok ops (l.setIfInBounds i true)
    | none => false
  | .yield ts i p, listed => match takesB .any ops [] [] ts listed with
    | some l => yieldW .any ops l [] i && p.ok ops (l.setIfInBounds i true)
    | none => false
  | .fork i j p q, listed => Region.ready .any ops listed == [i, j] && (ops[i]?).isSome && (ops[j]?).isSome && p.len == q.len && p.ok ops (listed.setIfInBounds i true) && q.ok ops (listed.setIfInBounds j true)
section
variable {P : Program} {ops : Array Oper} {Q : Exit → Act → World → Prop} {S : World → Prop}
end
end Go.Proofs.Ytalnfphlhcojcaa

namespace Go.Proofs.Ytalnfphlhcojcaa
open Go Go.RowKit
set_option linter.unusedSimpArgs false
set_option linter.unusedVariables false
set_option maxRecDepth 20000
theorem su_build2 {P : Program} {ops : Array Oper} {rest : List Oper} {o : Oper} {a : Act} {w : World} {Q : Exit → Act → World → Prop} (hg : o.guard = none) (t : TypeId) (x y : Operand) (ho : o.op = .build t #[(0, x), (1, y)]) (vx vy : Value) (hx : a.eval x = vx) (hy : a.eval y = vy)
    (cells : Array Value) (hf : P.built t [(0, vx), (1, vy)] = some cells) (h : wpList P ops Q rest (a.put o.dst (.agg cells)) w) : wpList P ops Q (o :: rest) a w := by
  refine wpList_buildTo hg t _ ho o.dst rfl cells ?_ h
  have e : (Array.map (fun (x : Nat × Operand) => match x with | (i, x) => (i, a.eval x)) #[(0, x), (1, y)]).toList = [(0, vx), (1, vy)] := by simp [hx, hy]
  rw [e]
  exact hf
theorem su_build6 {P : Program} {ops : Array Oper} {rest : List Oper} {o : Oper} {a : Act} {w : World} {Q : Exit → Act → World → Prop} (hg : o.guard = none) (t : TypeId) (x0 x1 x2 x3 x4 x5 : Operand) (ho : o.op = .build t #[(0, x0), (1, x1), (2, x2), (3, x3), (4, x4), (5, x5)]) (v0 v1 v2 v3 v4 v5 : Value) (h0 : a.eval x0 = v0) (h1 : a.eval x1 = v1) (h2 : a.eval x2 = v2) (h3 : a.eval x3 = v3) (h4 : a.eval x4 = v4) (h5 : a.eval x5 = v5)
    (cells : Array Value) (hf : P.built t [(0, v0), (1, v1), (2, v2), (3, v3), (4, v4), (5, v5)] = some cells) (h : wpList P ops Q rest (a.put o.dst (.agg cells)) w) : wpList P ops Q (o :: rest) a w := by
  refine wpList_buildTo hg t _ ho o.dst rfl cells ?_ h
  have e : (Array.map (fun (x : Nat × Operand) => match x with | (i, x) => (i, a.eval x)) #[(0, x0), (1, x1), (2, x2), (3, x3), (4, x4), (5, x5)]).toList = [(0, v0), (1, v1), (2, v2), (3, v3), (4, v4), (5, v5)] := by simp [h0, h1, h2, h3, h4, h5]
  rw [e]
  exact hf
theorem results_cell1 {P : Program} {fn : Func} {p : Tmp} {ty : TypeId} (h : fn.results = #[.cell p ty]) (tmps : Array Value) (w : World) (g : Nat) (t : TypeId) (cs : Array Value) (fr : Nat × Nat) (d : TypeDesc)
    (hp : tmps.getD p undef = .pointer (some ⟨g, 0, none⟩)) (hg : w.heap[g]? = some (.cells cs t fr))
    (hu : P.underlying ty = some d) (hd : (match d with | .struct _ | .array _ _ => true | _ => false) = true) (hi : (P.info? ty).map (·.size) = some cs.size) :
    (results fn tmps).run P w = .ok (.agg cs) w := results_cell_row h tmps w g t cs fr d hp hg hu hd hi
end Go.Proofs.Ytalnfphlhcojcaa

namespace Go.Proofs.Ytalnfphlhcojcaa
open Go Go.RowKit
set_option linter.unusedSimpArgs false
set_option linter.unusedVariables false
set_option maxRecDepth 20000
/-- does a root fit? as the document says it -/
def fitR (x : Sup) (c a : Nat) (b : Int) : Bool := sck x && (decide (x.b = b) && (decide (x.c = c) && (onD a b && (decide (a ≠ x.tr.1) && decide (a ≠ x.mr.1)))))
set_option maxHeartbeats 4000000 in
theorem rmapLeaves_any (b : Int) (w : World) : Calls Try.prog 15 #[.int .i64 b] w fun e w' => e = .returned (.tuple #[.int .i64 (if rBl b = true then (b + 1023) / 1024 else 0), .bool (rBl b)]) ∧ w' = w := by
  by_cases h1 : b < 16
  · rw [show rBl b = false by unfold rBl; rw [decide_eq_false (show ¬ 16 ≤ b by omega)]; rfl]
    go_enter Try.func15, Try.ntmps15
    go_wp2_with fail
    go_ret2
    exact ⟨rfl, rfl⟩
  · by_cases h2 : 8192 < b
    · rw [show rBl b = false by unfold rBl; rw [decide_eq_false (show ¬ b ≤ 8192 by omega), Bool.and_false]]
      go_enter Try.func15, Try.ntmps15
      go_wp2_with fail
      go_ret2
      exact ⟨rfl, rfl⟩
    · rw [(rBl_iff b).2 ⟨by omega, by omega⟩]
      have HE : Hid ((b + 1023).tdiv 1024 = (b + 1023) / 1024) := Int.tdiv_eq_ediv_of_nonneg (by omega)
      go_enter Try.func15, Try.ntmps15
      go_wp2_with fail
      go_ret2
      refine ⟨?_, rfl⟩
      first
      | (rw [← HE.out]; simp; done)
      | (have := HE.out; simp at this ⊢; omega)
set_option maxRecDepth 100000 in
set_option maxHeartbeats 4000000 in
theorem rscheck_any (x : Sup) (hx : SuW x) (w : World) : Calls Try.prog 24 #[.agg (suC x)] w fun e w' => e = .returned (.bool (sck x)) ∧ Below w.heap.size w w' := by
  have r0 : Blk (w.alloc (.cells (suC x) 45)) w.heap.size 45 (suC x) := Blk.new _ _ _
  have HB : Hid (Below w.heap.size w (w.alloc (.cells (suC x) 45))) := below_new1 _ _
  have c0 := sup_c0 r0
  have c2 := sup_c2 r0
  have c3 := sup_c3 r0
  have c36 := sup_c36 r0
  have c37 := sup_c37 r0
  have c38 := sup_c38 r0
  have c71 := sup_c71 r0
  have HM : Hid (∀ w : World, Calls Try.prog 15 #[.int .i64 x.b] w fun e w' => e = .returned (.tuple #[.int .i64 (if rBl x.b = true then (x.b + 1023) / 1024 else 0), .bool (rBl x.b)]) ∧ w' = w) := rmapLeaves_any x.b
  have HO : Hid (sck x = ((rBl x.b && (decide (3 ≤ x.u) && decide (x.u < x.b))) && (((decide (1 ≤ x.n) && decide (x.n ≤ 4096)) && (decide (x.th = hL 4 x.n) && decide (x.mh = hL 1024 x.b))) && (onD x.tr.1 x.b && (onD x.mr.1 x.b && decide (x.tr.1 ≠ x.mr.1)))))) := rfl
  have H4 : Hid (1 ≤ x.n → x.n ≤ 4096 → ∀ w : World, Calls Try.prog 16 #[.int .i64 ((x.n + 3).tdiv 4)] w fun e w' => e = .returned (.int .i64 (hL 4 x.n)) ∧ w' = w) := fun h1 h2 => by
    rw [Int.tdiv_eq_ediv_of_nonneg (by omega), ← hL_4 x.n (by omega)]
    exact rleast _ (by omega) (by omega)
  have HK : Hid (rBl x.b = true → ∀ w : World, Calls Try.prog 16 #[.int .i64 ((x.b + 1023) / 1024)] w fun e w' => e = .returned (.int .i64 (hL 1024 x.b)) ∧ w' = w) := fun h => by
    have := (rBl_iff x.b).1 h
    rw [← hL_1k x.b (by omega)]
    exact rleast _ (by omega) (by omega)
  have hb := hx.b
  have HRB : Hid (rBl x.b = true → 16 ≤ x.b ∧ x.b ≤ 8192) := (rBl_iff x.b).1
  have ha1 := hx.ta
  have ha2 := hx.ma
  generalize sck x = B at *
  clear r0 hx
  unfold onD at HO
  generalize rBl x.b = R at *
  generalize hL 4 x.n = H1 at *
  generalize hL 1024 x.b = H2 at *
  generalize x.b = b at *
  generalize x.n = n at *
  generalize x.u = u at *
  generalize x.th = th at *
  generalize x.mh = mh at *
  generalize x.tr.1 = a1 at *
  generalize x.mr.1 = a2 at *
  go_enter Try.func24, Try.ntmps24
  go_wp2_with fail
  generalize (w.alloc (.cells (suC x) 45)) = w0 at *
  refine (HM.out _).mono ?_
  rintro e w2 ⟨rfl, rfl⟩
  clear HM
  cases R
  · go_wp2_with fail
    go_ret
    exact ⟨by rw [HO.out]; simp, HB.out⟩
  · have HK' : Hid (∀ w : World, Calls Try.prog 16 #[.int .i64 ((b + 1023) / 1024)] w fun e w' => e = .returned (.int .i64 H2) ∧ w' = w) := HK.out rfl
    have hb16 := HRB.out rfl
    clear HK HRB hb
    rw [if_pos rfl]
    generalize (b + 1023) / 1024 = L at *
    obtain ⟨hb1, hb2⟩ := hb16
    by_cases h1 : n < 1
    · go_wp2_with fail
      go_ret
      exact ⟨by rw [HO.out, decide_eq_false (show ¬ 1 ≤ n by omega)]; simp, HB.out⟩
    · by_cases h2 : 4096 < n
      · go_wp2_with fail
        go_ret
        exact ⟨by rw [HO.out, decide_eq_false (show ¬ n ≤ 4096 by omega)]; simp, HB.out⟩
      · have h1' : 1 ≤ n := by omega
        have h2' : n ≤ 4096 := by omega
        have H4' : Hid (∀ w : World, Calls Try.prog 16 #[.int .i64 ((n + 3).tdiv 4)] w fun e w' => e = .returned (.int .i64 H1) ∧ w' = w) := H4.out h1' h2'
        clear H4
        have j1 : IntKind.i64.wrap (n + 3) = n + 3 := by rw [IntKind.wrap_i64]; omega
        have j2 : IntKind.i64.wrap ((n + 3).tdiv 4) = (n + 3).tdiv 4 := by rw [Int.tdiv_eq_ediv_of_nonneg (by omega), IntKind.wrap_i64]; omega
        generalize hM : (n + 3).tdiv 4 = M at *
        by_cases h3 : u < 3
        · go_wp2_with fail
          go_ret
          exact ⟨by rw [HO.out, decide_eq_false (show ¬ 3 ≤ u by omega)]; simp, HB.out⟩
        · by_cases h4 : b - 1 < u
          · go_wp2_with fail
            go_ret
            exact ⟨by rw [HO.out, decide_eq_false (show ¬ u < b by omega)]; simp, HB.out⟩
          · have h3' : 3 ≤ u := by omega
            have h4' : u < b := by omega
            by_cases h5 : th = H1
            · subst h5
              by_cases h6 : mh = H2
              · subst h6
                go_upto_region 4 with fail
                go_quiet (first | (go_at_call_of 16 (Value.int IntKind.i64 M); refine Calls.quiet_of_same (H4'.out _)) | (go_at_call_of 16 (Value.int IntKind.i64 L); refine Calls.quiet_of_same (HK'.out _)))
                generalize hw9 : w2.drewN _ = w9
                have HB9 : Hid (Below w.heap.size w w9) := by rw [← hw9]; exact su_dN HB.out _
                have c0 : w9.cell? ⟨w.heap.size, 0, none⟩ = some (.int .i64 b) := by rw [← hw9]; exact c0
                have c3 : w9.cell? ⟨w.heap.size, 3, none⟩ = some (.int .u32 ((a1 : Nat) : Int)) := by rw [← hw9]; exact c3
                have c38 : w9.cell? ⟨w.heap.size, 38, none⟩ = some (.int .u32 ((a2 : Nat) : Int)) := by rw [← hw9]; exact c38
                clear hw9 HB
                go_wp2_with fail
                go_quiet (fail)
                have HB : Hid (Below w.heap.size w (w9.drewN nq)) := su_dN HB9.out nq
                have k1 : IntKind.i64.wrap (a1 : Int) = (a1 : Int) := by rw [IntKind.wrap_i64]; omega
                have k2 : IntKind.i64.wrap (a2 : Int) = (a2 : Int) := by rw [IntKind.wrap_i64]; omega
                by_cases g1 : a1 = 0
                · subst g1
                  go_wp2_with fail
                  go_ret
                  exact ⟨by rw [HO.out]; simp, HB.out⟩
                · have g1' : (0 : Int) < (a1 : Int) := by omega
                  by_cases g2 : a2 = 0
                  · subst g2
                    go_wp2_with fail
                    go_ret
                    exact ⟨by rw [HO.out]; simp, HB.out⟩
                  · have g2' : (0 : Int) < (a2 : Int) := by omega
                    by_cases g3 : a1 = a2
                    · subst g3
                      go_wp2_with fail
                      go_ret
                      exact ⟨by rw [HO.out]; simp, HB.out⟩
                    · have g3' : ¬ (a1 : Int) = (a2 : Int) := by omega
                      by_cases g4 : (a1 : Int) < b
                      · by_cases g5 : (a2 : Int) < b
                        · go_wp2_with fail
                          go_ret
                          exact ⟨by rw [HO.out]; first | (simp [g1, g2, g3, g3', g4, g5, h1', h2', h3', h4']; done) | (simp [g1, g2, g3, g3', g4, g5, h1', h2', h3', h4']; omega) | (simp [g1, g2, g3, g3', g4, g5, h1', h2', h3', h4']; intros; omega), HB.out⟩
                        · go_wp2_with fail
                          go_ret
                          exact ⟨by rw [HO.out]; first | (simp [g5]; done) | (simp [g5]; omega) | (simp [g5]; intros; omega), HB.out⟩
                      · go_wp2_with fail
                        go_ret
                        exact ⟨by rw [HO.out]; first | (simp [g4]; done) | (simp [g4]; omega) | (simp [g4]; intros; omega), HB.out⟩
              · go_upto_region 4 with fail
                go_quiet (first | (go_at_call_of 16 (Value.int IntKind.i64 M); refine Calls.quiet_of_same (H4'.out _)) | (go_at_call_of 16 (Value.int IntKind.i64 L); refine Calls.quiet_of_same (HK'.out _)))
                go_wp2_with fail
                go_ret
                exact ⟨by rw [HO.out]; simp [h6], su_dN HB.out _⟩
            · go_upto_region 4 with fail
              go_quiet (first | (go_at_call_of 16 (Value.int IntKind.i64 M); refine Calls.quiet_of_same (H4'.out _)) | (go_at_call_of 16 (Value.int IntKind.i64 L); refine Calls.quiet_of_same (HK'.out _)))
              go_wp2_with fail
              go_ret
              exact ⟨by rw [HO.out]; simp [h5], su_dN HB.out _⟩
set_option maxRecDepth 100000 in
set_option maxHeartbeats 4000000 in
theorem rsfits_any (x : Sup) (hx : SuW x) (c a : Nat) (ha : a < 4294967296) (b : Int) (w : World) : Calls Try.prog 18 #[.agg (suC x), .int .u64 (c : Int), .int .u32 (a : Int), .int .i64 b] w fun e w' => e = .returned (.bool (fitR x c a b)) ∧ Below w.heap.size w w' := by
  have HC : Hid (∀ w, Calls Try.prog 24 #[.agg (suC x)] w fun e w' => e = .returned (.bool (sck x)) ∧ Below w.heap.size w w') := rscheck_any x hx
  have HR : Hid (fitR x c a b = (sck x && (decide (x.b = b) && (decide (x.c = c) && (onD a b && (decide (a ≠ x.tr.1) && decide (a ≠ x.mr.1))))))) := rfl
  unfold onD at HR
  generalize fitR x c a b = B at *
  generalize sck x = CK at *
  clear hx
  have r0 : Blk (w.alloc (.cells (suC x) 45)) w.heap.size 45 (suC x) := Blk.new _ _ _
  have hb : Below w.heap.size w (w.alloc (.cells (suC x) 45)) := below_new1 _ _
  go_enter Try.func18, Try.ntmps18
  go_wp2_with (first | (refine wpList_load_rowg (by rfl) 45 _ (by rfl) (w.heap.size) (by rfl) 45 (suC (x)) (0, 0) _ (by exact r0) Try.underlying45 (by rfl) (sizeRSup.trans (by rw [suC_size])) ?_; simp only [Act.put, List.setIfInBounds_toArray, List.set_cons_zero, List.set_cons_succ]) | fail)
  generalize (w.alloc (.cells (suC x) 45)) = W at *
  refine (HC.out _).mono ?_
  rintro e w1 ⟨rfl, hb1⟩
  have q0 := r0.below hb1 r0.lt
  have HB : Hid (Below w.heap.size w w1) := hb.trans (hb1.mono hb.size)
  clear r0 hb hb1 HC
  have c0 := sup_c0 q0
  have c1 := sup_c1 q0
  have c3 := sup_c3 q0
  have c38 := sup_c38 q0
  clear q0
  generalize x.b = xb at *
  generalize x.c = xc at *
  generalize x.tr.1 = n1 at *
  generalize x.mr.1 = n2 at *
  have k1 : IntKind.i64.wrap (a : Int) = (a : Int) := by rw [IntKind.wrap_i64]; omega
  cases CK
  · go_wp2_with fail
    go_ret
    exact ⟨by rw [HR.out]; simp, HB.out⟩
  · by_cases h1 : xb = b
    · subst h1
      by_cases h2 : xc = c
      · subst h2
        by_cases g1 : a = 0
        · subst g1
          go_wp2_with fail
          go_ret
          exact ⟨by rw [HR.out]; simp, HB.out⟩
        · have g1' : (0 : Int) < (a : Int) := by omega
          by_cases g4 : (a : Int) < xb
          · by_cases h3 : a = n1
            · subst h3
              go_wp2_with fail
              go_ret
              exact ⟨by rw [HR.out]; simp, HB.out⟩
            · have h3' : ¬ (a : Int) = (n1 : Int) := by omega
              by_cases h4 : a = n2
              · subst h4
                go_wp2_with fail
                go_ret
                exact ⟨by rw [HR.out]; simp, HB.out⟩
              · have h4' : ¬ (a : Int) = (n2 : Int) := by omega
                go_wp2_with fail
                go_ret
                exact ⟨by rw [HR.out]; first | (simp [h3, h4, h3', h4', g1, g4]; done) | (simp [h3, h4, h3', h4', g1, g4]; omega) | (simp [h3, h4, h3', h4', g1, g4]; intros; omega), HB.out⟩
          · go_wp2_with fail
            go_ret
            exact ⟨by rw [HR.out]; first | (simp [g4]; done) | (simp [g4]; omega) | (simp [g4]; intros; omega), HB.out⟩
      · have h2' : ¬ (xc : Int) = (c : Int) := by omega
        go_wp2_with fail
        go_ret
        exact ⟨by rw [HR.out]; simp [h2], HB.out⟩
    · go_wp2_with fail
      go_ret
      exact ⟨by rw [HR.out]; simp [h1], HB.out⟩
theorem sbuilt_rrf (r : Rf) : Try.prog.built 41 [(0, .int .u32 ((r.1 : Nat) : Int)), (1, .agg (va 32 (iv .u8 (dF r.2))))] = some (rfC r) := by kernel_rfl
theorem sbuilt_rtree (h : Int) (r : Rf) : Try.prog.built 43 [(0, .int .i64 h), (1, .agg (rfC r))] = some (tiC h r) := by kernel_rfl
theorem sbuilt_rsup (x : Sup) : Try.prog.built 45 [(0, .int .i64 x.b), (1, .int .u64 ((x.c : Nat) : Int)), (2, .agg (tiC x.th x.tr)), (3, .int .i64 x.n), (4, .agg (tiC x.mh x.mr)), (5, .int .i64 x.u)] = some (suC x) := by kernel_rfl
theorem sizeSm20 : (Try.prog.info? 25).map (·.size) = some 32 := by kernel_rfl
theorem ti_sum (h : Int) (r : Rf) : (tiC h r).extract 2 (2 + 32) = va 32 (iv .u8 (dF r.2)) := by
  unfold tiC
  rw [va_extract 34 2 32 _ (by decide)]
  refine va_congr fun i hi => ?_
  unfold tiF rfF iv
  rw [if_neg (by omega), if_neg (by omega), show 2 + i - 1 - 1 = i by omega]
set_option maxRecDepth 100000 in
set_option maxHeartbeats 4000000 in
theorem tree20_any (h : Int) (r : Rf) (w : World) : Calls Try.prog 27 #[.agg (tiC h r)] w fun e w' => e = .returned (.agg (tiC h r)) ∧ Below w.heap.size w w' := by
  have hz := zero_rti
  have r0 : Blk ((w.alloc (.cells (tiC h r) 29)).alloc (.cells (tiC 0 rf0) 43)) w.heap.size 29 (tiC h r) := (Blk.new _ _ _).alloc _
  have r1 : Blk ((w.alloc (.cells (tiC h r) 29)).alloc (.cells (tiC 0 rf0) 43)) (w.heap.size + 1) 43 (tiC 0 rf0) := Blk.new1 _ _ _ _
  have HB : Hid (Below w.heap.size w ((w.alloc (.cells (tiC h r) 29)).alloc (.cells (tiC 0 rf0) 43))) := below_new2 _ _ _
  have c0 : ((w.alloc (.cells (tiC h r) 29)).alloc (.cells (tiC 0 rf0) 43)).cell? ⟨w.heap.size, 0, none⟩ = some (.int .i64 h) := by rw [r0.cell]; exact va_at (tiF h r) (by decide)
  have c1 : ((w.alloc (.cells (tiC h r) 29)).alloc (.cells (tiC 0 rf0) 43)).cell? ⟨w.heap.size, 1, none⟩ = some (.int .u32 ((r.1 : Nat) : Int)) := by rw [r0.cell]; exact va_at (tiF h r) (by decide)
  have q0 : ((w.alloc (.cells (tiC h r) 29)).alloc (.cells (tiC 0 rf0) 43)).rangeAt w.heap.size 2 ((List.range 32).map (iv .u8 (dF r.2))) := by
    have h := World.rangeAt_of_block (b := w.heap.size) r0 2 32
    rw [ti_sum] at h
    rwa [va_toList] at h
  have hb1 := sbuilt_rrf r
  have hb2 := sbuilt_rtree h r
  go_enter Try.func27, Try.ntmps27
  go_wp2_with (first
    | (refine wpList_load_blk (by rfl) 25 _ (by rfl) (w.heap.size) (2) 32 (iv .u8 (dF r.2)) (by rfl) _ (by exact q0) Try.underlying25 rfl sizeSm20 ?_; simp only [Act.put, List.setIfInBounds_toArray, List.set_cons_zero, List.set_cons_succ])
    | (refine su_build2 (by rfl) 41 _ _ (by rfl) (.int .u32 ((r.1 : Nat) : Int)) (.agg (va 32 (iv .u8 (dF r.2)))) (by rfl) (by rfl) (rfC r) hb1 ?_; simp only [Act.put, List.setIfInBounds_toArray, List.set_cons_zero, List.set_cons_succ])
    | (refine su_build2 (by rfl) 43 _ _ (by rfl) (.int .i64 h) (.agg (rfC r)) (by rfl) (by rfl) (tiC h r) hb2 ?_; simp only [Act.put, List.setIfInBounds_toArray, List.set_cons_zero, List.set_cons_succ])
    | (refine wpList_store_row (by rfl) 43 _ _ (by rfl) (w.heap.size + 1) (tiC h r) (by rfl) (by rfl) 43 (_) (by exact r1) (sizeRTr.trans (by rw [tiC_size])) (by simp only [tiC_size]) (tiC_all _ _) ?_; simp only [Act.put, List.setIfInBounds_toArray, List.set_cons_zero, List.set_cons_succ])
    | fail)
  try simp only [Exit.inBlock, Exit.then]
  refine bodyPost_ret (results_cell1 Try.results27 _ _ (w.heap.size + 1) 43 (tiC h r) (0, 0) _ rfl (r1.set _) Try.underlying43 rfl (sizeRTr.trans (by rw [tiC_size]))) rfl ?_
  exact ⟨rfl, below_setRow HB.out (by omega) _⟩
theorem su_rT {w : World} {g : Nat} {x : Sup} (h : Blk w g 31 (suC x)) : w.rangeAt g 2 ((List.range 34).map (tiF x.th x.tr)) := by
  have q := World.rangeAt_of_block (b := g) h 2 34
  rw [su_table] at q
  unfold tiC at q
  rwa [va_toList] at q
theorem su_rM {w : World} {g : Nat} {x : Sup} (h : Blk w g 31 (suC x)) : w.rangeAt g 37 ((List.range 34).map (tiF x.mh x.mr)) := by
  have q := World.rangeAt_of_block (b := g) h 37 34
  rw [su_map] at q
  unfold tiC at q
  rwa [va_toList] at q
set_option maxRecDepth 100000 in
set_option maxHeartbeats 4000000 in
theorem given20_any (x : Sup) (w : World) : Calls Try.prog 9 #[.agg (suC x)] w fun e w' => e = .returned (.agg (suC x)) ∧ Below w.heap.size w w' := by
  have hz := zero_rsup
  have T1 : Hid (∀ w, Calls Try.prog 27 #[.agg (tiC x.th x.tr)] w fun e w' => e = .returned (.agg (tiC x.th x.tr)) ∧ Below w.heap.size w w') := tree20_any _ _
  have T2 : Hid (∀ w, Calls Try.prog 27 #[.agg (tiC x.mh x.mr)] w fun e w' => e = .returned (.agg (tiC x.mh x.mr)) ∧ Below w.heap.size w w') := tree20_any _ _
  have hbs := sbuilt_rsup x
  have hS : Hid (Blk ((w.alloc (.cells (suC x) 31)).alloc (.cells (suC su0) 45)) w.heap.size 31 (suC x) ∧ Blk ((w.alloc (.cells (suC x) 31)).alloc (.cells (suC su0) 45)) (w.heap.size + 1) 45 (suC su0) ∧ Below w.heap.size w ((w.alloc (.cells (suC x) 31)).alloc (.cells (suC su0) 45))) := ⟨(Blk.new _ _ _).alloc _, Blk.new1 _ _ _ _, below_new2 _ _ _⟩
  go_enter Try.func9, Try.ntmps9
  go_wp2_with fail
  generalize ((w.alloc (.cells (suC x) 31)).alloc (.cells (suC su0) 45)) = v at *
  have hS0 : Hid (Blk v.drew w.heap.size 31 (suC x) ∧ Blk v.drew (w.heap.size + 1) 45 (suC su0) ∧ Below w.heap.size w v.drew) := ⟨hS.out.1.drew, hS.out.2.1.drew, hS.out.2.2.drew⟩
  clear hS
  refine wp_region_partsS (fun U => Hid (Blk U w.heap.size 31 (suC x) ∧ Blk U (w.heap.size + 1) 45 (suC su0) ∧ Below w.heap.size w U)) [([], 0, true), ([], 1, true), ([], 2, true), ([], 3, true), ([], 4, true), ([], 5, true), ([], 7, true), ([], 8, true), ([], 9, true), ([], 10, true), ([], 12, true), ([], 13, true), ([], 6, false), ([], 11, false), ([], 14, false)] [] [15] (by kernel_rfl) (by kernel_rfl) hS0 (partsI_yield ?_)
  simp only [List.cons_append, List.nil_append, List.append_nil, List.filterMap_cons, List.filterMap_nil, List.getElem?_toArray, List.getElem?_cons_zero, List.getElem?_cons_succ]
  go_wp2_with fail
  refine ⟨rfl, _, .pointer (some ⟨w.heap.size, 0, none⟩), rfl, Or.inl ⟨by rfl, fun W hW => by go_simp⟩, partsI_yield ?_⟩
  simp only [Act.put, List.setIfInBounds_toArray, List.set_cons_zero, List.set_cons_succ]
  simp only [List.cons_append, List.nil_append, List.append_nil, List.filterMap_cons, List.filterMap_nil, List.getElem?_toArray, List.getElem?_cons_zero, List.getElem?_cons_succ]
  go_wp2_with fail
  refine ⟨rfl, _, .int .i64 x.b, rfl, Or.inl ⟨by rfl, fun W hW => by have hc := sup_c0 hW.out.1; go_simp⟩, partsI_yield ?_⟩
  simp only [Act.put, List.setIfInBounds_toArray, List.set_cons_zero, List.set_cons_succ]
  simp only [List.cons_append, List.nil_append, List.append_nil, List.filterMap_cons, List.filterMap_nil, List.getElem?_toArray, List.getElem?_cons_zero, List.getElem?_cons_succ]
  go_wp2_with fail
  refine ⟨rfl, _, .pointer (some ⟨w.heap.size, 1, none⟩), rfl, Or.inl ⟨by rfl, fun W hW => by go_simp⟩, partsI_yield ?_⟩
  simp only [Act.put, List.setIfInBounds_toArray, List.set_cons_zero, List.set_cons_succ]
  simp only [List.cons_append, List.nil_append, List.append_nil, List.filterMap_cons, List.filterMap_nil, List.getElem?_toArray, List.getElem?_cons_zero, List.getElem?_cons_succ]
  go_wp2_with fail
  refine ⟨rfl, _, .int .u64 ((x.c : Nat) : Int), rfl, Or.inl ⟨by rfl, fun W hW => by have hc := sup_c1 hW.out.1; go_simp⟩, partsI_yield ?_⟩
  simp only [Act.put, List.setIfInBounds_toArray, List.set_cons_zero, List.set_cons_succ]
  simp only [List.cons_append, List.nil_append, List.append_nil, List.filterMap_cons, List.filterMap_nil, List.getElem?_toArray, List.getElem?_cons_zero, List.getElem?_cons_succ]
  go_wp2_with fail
  refine ⟨rfl, _, .pointer (some ⟨w.heap.size, 2, none⟩), rfl, Or.inl ⟨by rfl, fun W hW => by go_simp⟩, partsI_yield ?_⟩
  simp only [Act.put, List.setIfInBounds_toArray, List.set_cons_zero, List.set_cons_succ]
  simp only [List.cons_append, List.nil_append, List.append_nil, List.filterMap_cons, List.filterMap_nil, List.getElem?_toArray, List.getElem?_cons_zero, List.getElem?_cons_succ]
  go_wp2_with fail
  refine ⟨rfl, _, .agg (tiC x.th x.tr), rfl, yieldsIf_load_mid (by rfl) 29 _ (by rfl) w.heap.size 2 (by rfl) _ _ (fun W hW => su_rT hW.out.1) Try.underlying29 rfl (sizeTi.trans (by simp)), partsI_yield ?_⟩
  simp only [Act.put, List.setIfInBounds_toArray, List.set_cons_zero, List.set_cons_succ]
  simp only [List.cons_append, List.nil_append, List.append_nil, List.filterMap_cons, List.filterMap_nil, List.getElem?_toArray, List.getElem?_cons_zero, List.getElem?_cons_succ]
  go_wp2_with fail
  refine ⟨rfl, _, .pointer (some ⟨w.heap.size, 36, none⟩), rfl, Or.inl ⟨by rfl, fun W hW => by go_simp⟩, partsI_yield ?_⟩
  simp only [Act.put, List.setIfInBounds_toArray, List.set_cons_zero, List.set_cons_succ]
  simp only [List.cons_append, List.nil_append, List.append_nil, List.filterMap_cons, List.filterMap_nil, List.getElem?_toArray, List.getElem?_cons_zero, List.getElem?_cons_succ]
  go_wp2_with fail
  refine ⟨rfl, _, .int .i64 x.n, rfl, Or.inl ⟨by rfl, fun W hW => by have hc := sup_c36 hW.out.1; go_simp⟩, partsI_yield ?_⟩
  simp only [Act.put, List.setIfInBounds_toArray, List.set_cons_zero, List.set_cons_succ]
  simp only [List.cons_append, List.nil_append, List.append_nil, List.filterMap_cons, List.filterMap_nil, List.getElem?_toArray, List.getElem?_cons_zero, List.getElem?_cons_succ]
  go_wp2_with fail
  refine ⟨rfl, _, .pointer (some ⟨w.heap.size, 37, none⟩), rfl, Or.inl ⟨by rfl, fun W hW => by go_simp⟩, partsI_yield ?_⟩
  simp only [Act.put, List.setIfInBounds_toArray, List.set_cons_zero, List.set_cons_succ]
  simp only [List.cons_append, List.nil_append, List.append_nil, List.filterMap_cons, List.filterMap_nil, List.getElem?_toArray, List.getElem?_cons_zero, List.getElem?_cons_succ]
  go_wp2_with fail
  refine ⟨rfl, _, .agg (tiC x.mh x.mr), rfl, yieldsIf_load_mid (by rfl) 29 _ (by rfl) w.heap.size 37 (by rfl) _ _ (fun W hW => su_rM hW.out.1) Try.underlying29 rfl (sizeTi.trans (by simp)), partsI_yield ?_⟩
  simp only [Act.put, List.setIfInBounds_toArray, List.set_cons_zero, List.set_cons_succ]
  simp only [List.cons_append, List.nil_append, List.append_nil, List.filterMap_cons, List.filterMap_nil, List.getElem?_toArray, List.getElem?_cons_zero, List.getElem?_cons_succ]
  go_wp2_with fail
  refine ⟨rfl, _, .pointer (some ⟨w.heap.size, 71, none⟩), rfl, Or.inl ⟨by rfl, fun W hW => by go_simp⟩, partsI_yield ?_⟩
  simp only [Act.put, List.setIfInBounds_toArray, List.set_cons_zero, List.set_cons_succ]
  simp only [List.cons_append, List.nil_append, List.append_nil, List.filterMap_cons, List.filterMap_nil, List.getElem?_toArray, List.getElem?_cons_zero, List.getElem?_cons_succ]
  go_wp2_with fail
  refine ⟨rfl, _, .int .i64 x.u, rfl, Or.inl ⟨by rfl, fun W hW => by have hc := sup_c71 hW.out.1; go_simp⟩, partsI_force ?_⟩
  simp only [Act.put, List.setIfInBounds_toArray, List.set_cons_zero, List.set_cons_succ]
  simp only [List.cons_append, List.nil_append, List.append_nil, List.filterMap_cons, List.filterMap_nil, List.getElem?_toArray, List.getElem?_cons_zero, List.getElem?_cons_succ]
  go_wp2_with fail
  refine (T1.out _).mono ?_
  rintro e y0 ⟨rfl, hy0⟩
  have hS1 : Hid (Blk y0 w.heap.size 31 (suC x) ∧ Blk y0 (w.heap.size + 1) 45 (suC su0) ∧ Below w.heap.size w y0) := ⟨hS0.out.1.below hy0 hS0.out.1.lt, hS0.out.2.1.below hy0 hS0.out.2.1.lt, hS0.out.2.2.trans (hy0.mono hS0.out.2.2.size)⟩
  clear hy0 hS0 T1
  go_wp2_with fail
  refine ⟨rfl, hS1, partsI_force ?_⟩
  simp only [List.cons_append, List.nil_append, List.append_nil, List.filterMap_cons, List.filterMap_nil, List.getElem?_toArray, List.getElem?_cons_zero, List.getElem?_cons_succ]
  go_wp2_with fail
  refine (T2.out _).mono ?_
  rintro e y1 ⟨rfl, hy1⟩
  have hS2 : Hid (Blk y1 w.heap.size 31 (suC x) ∧ Blk y1 (w.heap.size + 1) 45 (suC su0) ∧ Below w.heap.size w y1) := ⟨hS1.out.1.below hy1 hS1.out.1.lt, hS1.out.2.1.below hy1 hS1.out.2.1.lt, hS1.out.2.2.trans (hy1.mono hS1.out.2.2.size)⟩
  clear hy1 hS1 T2
  go_wp2_with fail
  refine ⟨rfl, hS2, partsI_force ?_⟩
  simp only [List.cons_append, List.nil_append, List.append_nil, List.filterMap_cons, List.filterMap_nil, List.getElem?_toArray, List.getElem?_cons_zero, List.getElem?_cons_succ]
  refine su_build6 (by rfl) 45 _ _ _ _ _ _ (by rfl) _ _ _ _ _ _ (by rfl) (by rfl) (by rfl) (by rfl) (by rfl) (by rfl) (suC x) (by exact hbs) ?_
  simp only [Act.put, List.setIfInBounds_toArray, List.set_cons_zero, List.set_cons_succ]
  go_wp2_with fail
  refine ⟨rfl, hS2, partsI_last ?_⟩
  simp only [List.cons_append, List.nil_append, List.append_nil, List.filterMap_cons, List.filterMap_nil, List.getElem?_toArray, List.getElem?_cons_zero, List.getElem?_cons_succ]
  have hst := Blk.store (P := Try.prog) hS2.out.2.1 (suC x) (by simp only [suC_size]) (fun v hv => Array.all_eq_true'.1 (suC_all x) v (Array.mem_toList_iff.1 hv))
  have hvs := suC_size x
  go_wp2_with fail
  refine ⟨rfl, ?_⟩
  go_wp2_with fail
  try simp only [Exit.inBlock, Exit.then]
  refine bodyPost_ret (results_cell1 Try.results9 _ _ (w.heap.size + 1) 45 (suC x) (0, 0) _ rfl (hS2.out.2.1.set _) Try.underlying45 rfl (sizeRSup.trans (by rw [suC_size]))) rfl ?_
  exact ⟨rfl, below_setRow hS2.out.2.2 (Nat.le_succ _) _⟩
end Go.Proofs.Ytalnfphlhcojcaa
