/- SuperFits: the walk. -/
import Derived.Test.YtalnfphlhcojcaaHSuRef
import Derived.Test.YtalnfphlhcojcaaHNdKit
import Derived.BigQuiet
import Derived.Deep.QuietTactic
import Derived.Handy
import Derived.Test.YtalnfphlhcojcaaHSuSize

namespace Go.Proofs.Ytalnfphlhcojcaa
open Go Go.RowKit
set_option linter.unusedSimpArgs false
set_option linter.unusedVariables false
set_option maxRecDepth 20000
/-- does a root fit a slot (of the counter c, its root at a) on so many blocks? -/
def fitS (x : Sup) (c a : Nat) (b : Int) : Bool := sck x && (decide (x.b = b) && (decide (x.c = c) && (onD a b && (decide (a ≠ x.tr.1) && decide (a ≠ x.mr.1)))))
set_option maxRecDepth 100000 in
set_option maxHeartbeats 4000000 in
theorem sfits_any (x : Sup) (hx : SuW x) (c a : Nat) (d : Vector Nat 32) (ha : a < 4294967296) (b : Int) (hb1 : -9223372036854775808 ≤ b ∧ b ≤ 9223372036854775807) (w : World) : Calls Try.prog 17 #[.agg (suC x), .agg (slC (c, a, d)), .int .i64 b] w fun e w' => e = .returned (.bool (fitS x c a b)) ∧ Below w.heap.size w w' := by
  have HC : Hid (∀ w, Calls Try.prog 10 #[.agg (suC x)] w fun e w' => e = .returned (.int .i64 (scE x)) ∧ Below w.heap.size w w') := scheck_any x hx
  have HO : Hid (sck x = true → x.b = b → ∀ w : World, Calls Try.prog 36 #[.int .u32 (a : Int), .int .i64 b] w fun e w' => e = .returned (.bool (onD a b)) ∧ w' = w) := fun h1 h2 => onDisk_any a b ha (by have := (sck_all x h1).1.1; omega) hb1.2
  have HR : Hid (fitS x c a b = (sck x && (decide (x.b = b) && (decide (x.c = c) && (onD a b && (decide (a ≠ x.tr.1) && decide (a ≠ x.mr.1))))))) := rfl
  have HX : Hid (scE x = if sck x = true then 0 else 200) := rfl
  generalize scE x = EX at *
  generalize fitS x c a b = B at *
  generalize onD a b = OD at *
  generalize sck x = CK at *
  clear hx hb1
  have r0 : Blk ((w.alloc (.cells (suC x) 31)).alloc (.cells (slC (c, a, d)) 55)) w.heap.size 31 (suC x) := (Blk.new _ _ _).alloc _
  have r1 : Blk ((w.alloc (.cells (suC x) 31)).alloc (.cells (slC (c, a, d)) 55)) (w.heap.size + 1) 55 (slC (c, a, d)) := Blk.new1 _ _ _ _
  have hb : Below w.heap.size w ((w.alloc (.cells (suC x) 31)).alloc (.cells (slC (c, a, d)) 55)) := below_new2 _ _ _
  go_enter Try.func17, Try.ntmps17
  go_wp2_with (first | (refine wpList_load_rowg (by rfl) 31 _ (by rfl) (w.heap.size) (by rfl) 31 (suC (x)) (0, 0) _ (by exact r0) Try.underlying31 (by rfl) (sizeSup.trans (by rw [suC_size])) ?_; simp only [Act.put, List.setIfInBounds_toArray, List.set_cons_zero, List.set_cons_succ]) | fail)
  generalize ((w.alloc (.cells (suC x) 31)).alloc (.cells (slC (c, a, d)) 55)) = W at *
  refine (HC.out _).mono ?_
  rintro e w1 ⟨rfl, hb1⟩
  have q0 := r0.below hb1 r0.lt
  have q1 := r1.below hb1 r1.lt
  have HB : Hid (Below w.heap.size w w1) := hb.trans (hb1.mono hb.size)
  clear r0 r1 hb hb1 HC
  have c0 := sup_c0 q0
  have c1 := sup_c1 q0
  have c3 := sup_c3 q0
  have c38 := sup_c38 q0
  have s0 : w1.cell? ⟨w.heap.size + 1, 0, none⟩ = some (.int .u64 ((c : Nat) : Int)) := by rw [q1.cell]; rfl
  have s1 : w1.cell? ⟨w.heap.size + 1, 1, none⟩ = some (.int .u32 ((a : Nat) : Int)) := by rw [q1.cell]; rfl
  clear q0 q1
  generalize x.b = xb at *
  generalize x.c = xc at *
  generalize x.tr.1 = n1 at *
  generalize x.mr.1 = n2 at *
  cases CK
  · have e : EX = 200 := HX.out
    subst e
    go_wp2_with fail
    go_ret
    exact ⟨by rw [HR.out]; simp, HB.out⟩
  · have e : EX = 0 := HX.out
    subst e
    by_cases h1 : xb = b
    · subst h1
      have HO' : Hid (∀ w : World, Calls Try.prog 36 #[.int .u32 (a : Int), .int .i64 xb] w fun e w' => e = .returned (.bool OD) ∧ w' = w) := HO.out rfl rfl
      clear HO
      by_cases h2 : xc = c
      · subst h2
        go_wp2_with fail
        refine (HO'.out _).mono ?_
        rintro e w2 ⟨rfl, rfl⟩
        cases OD
        · go_wp2_with fail
          go_ret
          exact ⟨by rw [HR.out]; simp, HB.out⟩
        · by_cases h3 : a = n1
          · subst h3
            go_wp2_with fail
            go_ret
            exact ⟨by rw [HR.out]; simp, HB.out⟩
          · have h3' : ¬ (a : Int) = (n1 : Int) := by omega
            by_cases h4 : a = n2
            · subst h4
              go_wp2_with fail
              go_ret
              exact ⟨by rw [HR.out]; simp, HB.out⟩
            · have h4' : ¬ (a : Int) = (n2 : Int) := by omega
              go_wp2_with fail
              go_ret
              exact ⟨by rw [HR.out]; simp [h3, h4]; try omega, HB.out⟩
      · have h2' : ¬ (xc : Int) = (c : Int) := by omega
        go_wp2_with fail
        go_ret
        exact ⟨by rw [HR.out]; simp [h2], HB.out⟩
    · go_wp2_with fail
      go_ret
      exact ⟨by rw [HR.out]; simp [h1], HB.out⟩
set_option maxRecDepth 100000 in
set_option maxHeartbeats 4000000 in
theorem awake20_any (w : World) : Calls Try.prog 6 #[] w fun e w' => e = .returned (.bool true) ∧ w' = w := by
  have H : Hid (∀ w : World, Calls Try.prog 14 #[.int .i64 8192] w fun e w' => e = .returned (.tuple #[.int .i64 8, .int .i64 0]) ∧ w' = w) := mapLeaves_any 8192
  go_enter Try.func6, Try.ntmps6
  go_wp2_with fail
  refine (H.out _).mono ?_
  rintro e w2 ⟨rfl, rfl⟩
  go_wp2_with fail
  go_ret
  exact ⟨rfl, rfl⟩
end Go.Proofs.Ytalnfphlhcojcaa

namespace Go.Proofs.Ytalnfphlhcojcaa
open Go Go.RowKit
set_option linter.unusedSimpArgs false
set_option linter.unusedVariables false
set_option maxRecDepth 20000
set_option maxRecDepth 100000 in
set_option maxHeartbeats 4000000 in
theorem superFitsLaw (x : Sup) (hx : SuW x) (c a : Nat) (d : Vector Nat 32) (hc : c < 18446744073709551616) (ha : a < 4294967296) (b : Int) (hb : -9223372036854775808 ≤ b ∧ b ≤ 9223372036854775807) (w : World) : Calls Try.prog 4 #[.agg (suC x), .agg (slC (c, a, d)), .int .i64 b] w fun e w' => e = .returned (.bool true) ∧ Below w.heap.size w w' := by
  have HA : Hid (∀ w : World, Calls Try.prog 6 #[] w fun e w' => e = .returned (.bool true) ∧ w' = w) := awake20_any
  have H1 : Hid (∀ w : World, Calls Try.prog 13 #[.int .i64 b] w fun e w' => e = .returned (.tuple #[.int .i64 (if rBl b = true then hL 1024 b else 0), .int .i64 (if rBl b = true then 0 else 200)]) ∧ w' = w) := mapHeight_any b
  have H2 : Hid (∀ w : World, Calls Try.prog 14 #[.int .i64 b] w fun e w' => e = .returned (.tuple #[.int .i64 (if rBl b = true then (b + 1023) / 1024 else 0), .int .i64 (if rBl b = true then 0 else 200)]) ∧ w' = w) := mapLeaves_any b
  have H3 : Hid (∀ w : World, Calls Try.prog 15 #[.int .i64 b] w fun e w' => e = .returned (.tuple #[.int .i64 (if rBl b = true then (b + 1023) / 1024 else 0), .bool (rBl b)]) ∧ w' = w) := rmapLeaves_any b
  have H4 : Hid (rBl b = true → ∀ w : World, Calls Try.prog 16 #[.int .i64 ((b + 1023) / 1024)] w fun e w' => e = .returned (.int .i64 (hL 1024 b)) ∧ w' = w) := fun h => by
    have := (rBl_iff b).1 h
    rw [← hL_1k b (by omega)]
    exact rleast _ (by omega) (by omega)
  have HF : Hid (∀ w, Calls Try.prog 17 #[.agg (suC x), .agg (slC (c, a, d)), .int .i64 b] w fun e w' => e = .returned (.bool (fitS x c a b)) ∧ Below w.heap.size w w') := sfits_any x hx c a d ha b hb
  have HG : Hid (∀ w, Calls Try.prog 9 #[.agg (suC x)] w fun e w' => e = .returned (.agg (suC x)) ∧ Below w.heap.size w w') := given20_any x
  have HR : Hid (∀ w, Calls Try.prog 18 #[.agg (suC x), .int .u64 (c : Int), .int .u32 (a : Int), .int .i64 b] w fun e w' => e = .returned (.bool (fitS x c a b)) ∧ Below w.heap.size w w') := rsfits_any x hx c a ha b
  generalize fitS x c a b = FI at *
  generalize hL 1024 b = HH at *
  generalize rBl b = R at *
  generalize (b + 1023) / 1024 = L at *
  clear hx hc ha hb
  cases R
  · have h1 : Hid (∀ w : World, Calls Try.prog 13 #[.int .i64 b] w fun e w' => e = .returned (.tuple #[.int .i64 0, .int .i64 200]) ∧ w' = w) := H1.out
    have h2 : Hid (∀ w : World, Calls Try.prog 14 #[.int .i64 b] w fun e w' => e = .returned (.tuple #[.int .i64 0, .int .i64 200]) ∧ w' = w) := H2.out
    have h3 : Hid (∀ w : World, Calls Try.prog 15 #[.int .i64 b] w fun e w' => e = .returned (.tuple #[.int .i64 0, .bool false]) ∧ w' = w) := H3.out
    clear H1 H2 H3 H4
    have hS : Hid (Blk ((w.alloc (.cells (suC x) 31)).alloc (.cells (slC (c, a, d)) 55)) w.heap.size 31 (suC x) ∧ Blk ((w.alloc (.cells (suC x) 31)).alloc (.cells (slC (c, a, d)) 55)) (w.heap.size + 1) 55 (slC (c, a, d)) ∧ Below w.heap.size w ((w.alloc (.cells (suC x) 31)).alloc (.cells (slC (c, a, d)) 55))) := ⟨(Blk.new _ _ _).alloc _, Blk.new1 _ _ _ _, below_new2 _ _ _⟩
    go_enter Try.func4, Try.ntmps4
    go_wp2_with fail
    generalize ((w.alloc (.cells (suC x) 31)).alloc (.cells (slC (c, a, d)) 55)) = v at *
    refine (HA.out _).mono ?_
    rintro e _ ⟨rfl, rfl⟩
    go_wp2_with fail
    refine (h1.out _).mono ?_
    rintro e _ ⟨rfl, rfl⟩
    go_wp2_with fail
    refine (h2.out _).mono ?_
    rintro e _ ⟨rfl, rfl⟩
    go_wp2_with fail
    refine (h3.out _).mono ?_
    rintro e _ ⟨rfl, rfl⟩
    clear HA h1 h2 h3
    go_upto_region 8 with fail
    rename World => v
    have hS0 : Hid (Blk v.drew w.heap.size 31 (suC x) ∧ Blk v.drew (w.heap.size + 1) 55 (slC (c, a, d)) ∧ Below w.heap.size w v.drew) := ⟨hS.out.1.drew, hS.out.2.1.drew, hS.out.2.2.drew⟩
    clear hS
    cases FI
    · refine wp_region_partsS (fun U => Hid (Blk U w.heap.size 31 (suC x) ∧ Blk U (w.heap.size + 1) 55 (slC (c, a, d)) ∧ Below w.heap.size w U)) [([2, 11], 0, true), ([], 1, true), ([], 4, true), ([], 6, true), ([], 7, true), ([], 8, true), ([], 9, true), ([], 10, true), ([], 3, false), ([], 5, false), ([], 12, false), ([], 13, false)] [14] [] (by kernel_rfl) (by kernel_rfl) hS0 (partsI_yield ?_)
      simp only [List.cons_append, List.nil_append, List.append_nil, List.filterMap_cons, List.filterMap_nil, List.getElem?_toArray, List.getElem?_cons_zero, List.getElem?_cons_succ]
      go_wp2_with fail
      refine ⟨rfl, _, .agg (suC x), rfl, kyields_load (by rfl) 31 _ (by rfl) (w.heap.size) 72 (suF x) (by rfl) _ 31 (fun W hW => hW.out.1) Try.underlying31 rfl sizeSup, partsI_yield ?_⟩
      simp only [Act.put, List.setIfInBounds_toArray, List.set_cons_zero, List.set_cons_succ]
      simp only [List.cons_append, List.nil_append, List.append_nil, List.filterMap_cons, List.filterMap_nil, List.getElem?_toArray, List.getElem?_cons_zero, List.getElem?_cons_succ]
      go_wp2_with fail
      refine ⟨rfl, _, .agg (slC (c, a, d)), rfl, kyields_load (by rfl) 55 _ (by rfl) (w.heap.size + 1) 34 (slF (c, a, d)) (by rfl) _ 55 (fun W hW => hW.out.2.1) Try.underlying55 rfl sizeSlot, partsI_yield ?_⟩
      simp only [Act.put, List.setIfInBounds_toArray, List.set_cons_zero, List.set_cons_succ]
      simp only [List.cons_append, List.nil_append, List.append_nil, List.filterMap_cons, List.filterMap_nil, List.getElem?_toArray, List.getElem?_cons_zero, List.getElem?_cons_succ]
      go_wp2_with fail
      refine ⟨rfl, _, .agg (suC x), rfl, kyields_load (by rfl) 31 _ (by rfl) (w.heap.size) 72 (suF x) (by rfl) _ 31 (fun W hW => hW.out.1) Try.underlying31 rfl sizeSup, partsI_yield ?_⟩
      simp only [Act.put, List.setIfInBounds_toArray, List.set_cons_zero, List.set_cons_succ]
      simp only [List.cons_append, List.nil_append, List.append_nil, List.filterMap_cons, List.filterMap_nil, List.getElem?_toArray, List.getElem?_cons_zero, List.getElem?_cons_succ]
      go_wp2_with fail
      refine ⟨rfl, _, .pointer (some ⟨w.heap.size + 1, 0, none⟩), rfl, Or.inl ⟨by rfl, fun W hW => by go_simp⟩, partsI_yield ?_⟩
      simp only [Act.put, List.setIfInBounds_toArray, List.set_cons_zero, List.set_cons_succ]
      simp only [List.cons_append, List.nil_append, List.append_nil, List.filterMap_cons, List.filterMap_nil, List.getElem?_toArray, List.getElem?_cons_zero, List.getElem?_cons_succ]
      go_wp2_with fail
      refine ⟨rfl, _, .int .u64 (c : Int), rfl, Or.inl ⟨by rfl, fun W hW => by have hc : W.cell? ⟨w.heap.size + 1, 0, none⟩ = some (.int .u64 ((c : Nat) : Int)) := (hW.out.2.1.cell 0).trans rfl; go_simp⟩, partsI_yield ?_⟩
      simp only [Act.put, List.setIfInBounds_toArray, List.set_cons_zero, List.set_cons_succ]
      simp only [List.cons_append, List.nil_append, List.append_nil, List.filterMap_cons, List.filterMap_nil, List.getElem?_toArray, List.getElem?_cons_zero, List.getElem?_cons_succ]
      go_wp2_with fail
      refine ⟨rfl, _, .pointer (some ⟨w.heap.size + 1, 1, none⟩), rfl, Or.inl ⟨by rfl, fun W hW => by go_simp⟩, partsI_yield ?_⟩
      simp only [Act.put, List.setIfInBounds_toArray, List.set_cons_zero, List.set_cons_succ]
      simp only [List.cons_append, List.nil_append, List.append_nil, List.filterMap_cons, List.filterMap_nil, List.getElem?_toArray, List.getElem?_cons_zero, List.getElem?_cons_succ]
      go_wp2_with fail
      refine ⟨rfl, _, .pointer (some ⟨w.heap.size + 1, 1, none⟩), rfl, Or.inl ⟨by rfl, fun W hW => by go_simp⟩, partsI_yield ?_⟩
      simp only [Act.put, List.setIfInBounds_toArray, List.set_cons_zero, List.set_cons_succ]
      simp only [List.cons_append, List.nil_append, List.append_nil, List.filterMap_cons, List.filterMap_nil, List.getElem?_toArray, List.getElem?_cons_zero, List.getElem?_cons_succ]
      go_wp2_with fail
      refine ⟨rfl, _, .int .u32 (a : Int), rfl, Or.inl ⟨by rfl, fun W hW => by have hc : W.cell? ⟨w.heap.size + 1, 1, none⟩ = some (.int .u32 ((a : Nat) : Int)) := (hW.out.2.1.cell 1).trans rfl; go_simp⟩, partsI_force ?_⟩
      simp only [Act.put, List.setIfInBounds_toArray, List.set_cons_zero, List.set_cons_succ]
      simp only [List.cons_append, List.nil_append, List.append_nil, List.filterMap_cons, List.filterMap_nil, List.getElem?_toArray, List.getElem?_cons_zero, List.getElem?_cons_succ]
      go_wp2_with fail
      refine (HF.out _).mono ?_
      rintro e y0 ⟨rfl, hy0⟩
      have hS1 : Hid (Blk y0 w.heap.size 31 (suC x) ∧ Blk y0 (w.heap.size + 1) 55 (slC (c, a, d)) ∧ Below w.heap.size w y0) := ⟨hS0.out.1.below hy0 hS0.out.1.lt, hS0.out.2.1.below hy0 hS0.out.2.1.lt, hS0.out.2.2.trans (hy0.mono hS0.out.2.2.size)⟩
      clear hy0 hS0 HF
      go_wp2_with fail
      refine ⟨rfl, hS1, partsI_force ?_⟩
      simp only [List.cons_append, List.nil_append, List.append_nil, List.filterMap_cons, List.filterMap_nil, List.getElem?_toArray, List.getElem?_cons_zero, List.getElem?_cons_succ]
      go_wp2_with fail
      refine (HG.out _).mono ?_
      rintro e y1 ⟨rfl, hy1⟩
      have hS2 : Hid (Blk y1 w.heap.size 31 (suC x) ∧ Blk y1 (w.heap.size + 1) 55 (slC (c, a, d)) ∧ Below w.heap.size w y1) := ⟨hS1.out.1.below hy1 hS1.out.1.lt, hS1.out.2.1.below hy1 hS1.out.2.1.lt, hS1.out.2.2.trans (hy1.mono hS1.out.2.2.size)⟩
      clear hy1 hS1 HG
      go_wp2_with fail
      refine ⟨rfl, hS2, partsI_force ?_⟩
      simp only [List.cons_append, List.nil_append, List.append_nil, List.filterMap_cons, List.filterMap_nil, List.getElem?_toArray, List.getElem?_cons_zero, List.getElem?_cons_succ]
      go_wp2_with fail
      refine (HR.out _).mono ?_
      rintro e y2 ⟨rfl, hy2⟩
      have hS3 : Hid (Blk y2 w.heap.size 31 (suC x) ∧ Blk y2 (w.heap.size + 1) 55 (slC (c, a, d)) ∧ Below w.heap.size w y2) := ⟨hS2.out.1.below hy2 hS2.out.1.lt, hS2.out.2.1.below hy2 hS2.out.2.1.lt, hS2.out.2.2.trans (hy2.mono hS2.out.2.2.size)⟩
      clear hy2 hS2 HR
      go_wp2_with fail
      refine ⟨rfl, hS3, partsI_force ?_⟩
      simp only [List.cons_append, List.nil_append, List.append_nil, List.filterMap_cons, List.filterMap_nil, List.getElem?_toArray, List.getElem?_cons_zero, List.getElem?_cons_succ]
      go_wp2_with fail
      refine ⟨rfl, hS3, partsI_last ?_⟩
      simp only [List.cons_append, List.nil_append, List.append_nil, List.filterMap_cons, List.filterMap_nil, List.getElem?_toArray, List.getElem?_cons_zero, List.getElem?_cons_succ]
      go_wp2_with fail
      refine ⟨rfl, ?_⟩
      go_wp2_with fail
      go_ret
      exact ⟨rfl, hS3.out.2.2⟩
    · refine wp_region_partsS (fun U => Hid (Blk U w.heap.size 31 (suC x) ∧ Blk U (w.heap.size + 1) 55 (slC (c, a, d)) ∧ Below w.heap.size w U)) [([2, 11], 0, true), ([], 1, true), ([], 4, true), ([], 6, true), ([], 7, true), ([], 8, true), ([], 9, true), ([], 10, true), ([], 3, false), ([], 5, false), ([], 12, false), ([], 13, false)] [14] [] (by kernel_rfl) (by kernel_rfl) hS0 (partsI_yield ?_)
      simp only [List.cons_append, List.nil_append, List.append_nil, List.filterMap_cons, List.filterMap_nil, List.getElem?_toArray, List.getElem?_cons_zero, List.getElem?_cons_succ]
      go_wp2_with fail
      refine ⟨rfl, _, .agg (suC x), rfl, kyields_load (by rfl) 31 _ (by rfl) (w.heap.size) 72 (suF x) (by rfl) _ 31 (fun W hW => hW.out.1) Try.underlying31 rfl sizeSup, partsI_yield ?_⟩
      simp only [Act.put, List.setIfInBounds_toArray, List.set_cons_zero, List.set_cons_succ]
      simp only [List.cons_append, List.nil_append, List.append_nil, List.filterMap_cons, List.filterMap_nil, List.getElem?_toArray, List.getElem?_cons_zero, List.getElem?_cons_succ]
      go_wp2_with fail
      refine ⟨rfl, _, .agg (slC (c, a, d)), rfl, kyields_load (by rfl) 55 _ (by rfl) (w.heap.size + 1) 34 (slF (c, a, d)) (by rfl) _ 55 (fun W hW => hW.out.2.1) Try.underlying55 rfl sizeSlot, partsI_yield ?_⟩
      simp only [Act.put, List.setIfInBounds_toArray, List.set_cons_zero, List.set_cons_succ]
      simp only [List.cons_append, List.nil_append, List.append_nil, List.filterMap_cons, List.filterMap_nil, List.getElem?_toArray, List.getElem?_cons_zero, List.getElem?_cons_succ]
      go_wp2_with fail
      refine ⟨rfl, _, .agg (suC x), rfl, kyields_load (by rfl) 31 _ (by rfl) (w.heap.size) 72 (suF x) (by rfl) _ 31 (fun W hW => hW.out.1) Try.underlying31 rfl sizeSup, partsI_yield ?_⟩
      simp only [Act.put, List.setIfInBounds_toArray, List.set_cons_zero, List.set_cons_succ]
      simp only [List.cons_append, List.nil_append, List.append_nil, List.filterMap_cons, List.filterMap_nil, List.getElem?_toArray, List.getElem?_cons_zero, List.getElem?_cons_succ]
      go_wp2_with fail
      refine ⟨rfl, _, .pointer (some ⟨w.heap.size + 1, 0, none⟩), rfl, Or.inl ⟨by rfl, fun W hW => by go_simp⟩, partsI_yield ?_⟩
      simp only [Act.put, List.setIfInBounds_toArray, List.set_cons_zero, List.set_cons_succ]
      simp only [List.cons_append, List.nil_append, List.append_nil, List.filterMap_cons, List.filterMap_nil, List.getElem?_toArray, List.getElem?_cons_zero, List.getElem?_cons_succ]
      go_wp2_with fail
      refine ⟨rfl, _, .int .u64 (c : Int), rfl, Or.inl ⟨by rfl, fun W hW => by have hc : W.cell? ⟨w.heap.size + 1, 0, none⟩ = some (.int .u64 ((c : Nat) : Int)) := (hW.out.2.1.cell 0).trans rfl; go_simp⟩, partsI_yield ?_⟩
      simp only [Act.put, List.setIfInBounds_toArray, List.set_cons_zero, List.set_cons_succ]
      simp only [List.cons_append, List.nil_append, List.append_nil, List.filterMap_cons, List.filterMap_nil, List.getElem?_toArray, List.getElem?_cons_zero, List.getElem?_cons_succ]
      go_wp2_with fail
      refine ⟨rfl, _, .pointer (some ⟨w.heap.size + 1, 1, none⟩), rfl, Or.inl ⟨by rfl, fun W hW => by go_simp⟩, partsI_yield ?_⟩
      simp only [Act.put, List.setIfInBounds_toArray, List.set_cons_zero, List.set_cons_succ]
      simp only [List.cons_append, List.nil_append, List.append_nil, List.filterMap_cons, List.filterMap_nil, List.getElem?_toArray, List.getElem?_cons_zero, List.getElem?_cons_succ]
      go_wp2_with fail
      refine ⟨rfl, _, .pointer (some ⟨w.heap.size + 1, 1, none⟩), rfl, Or.inl ⟨by rfl, fun W hW => by go_simp⟩, partsI_yield ?_⟩
      simp only [Act.put, List.setIfInBounds_toArray, List.set_cons_zero, List.set_cons_succ]
      simp only [List.cons_append, List.nil_append, List.append_nil, List.filterMap_cons, List.filterMap_nil, List.getElem?_toArray, List.getElem?_cons_zero, List.getElem?_cons_succ]
      go_wp2_with fail
      refine ⟨rfl, _, .int .u32 (a : Int), rfl, Or.inl ⟨by rfl, fun W hW => by have hc : W.cell? ⟨w.heap.size + 1, 1, none⟩ = some (.int .u32 ((a : Nat) : Int)) := (hW.out.2.1.cell 1).trans rfl; go_simp⟩, partsI_force ?_⟩
      simp only [Act.put, List.setIfInBounds_toArray, List.set_cons_zero, List.set_cons_succ]
      simp only [List.cons_append, List.nil_append, List.append_nil, List.filterMap_cons, List.filterMap_nil, List.getElem?_toArray, List.getElem?_cons_zero, List.getElem?_cons_succ]
      go_wp2_with fail
      refine (HF.out _).mono ?_
      rintro e y0 ⟨rfl, hy0⟩
      have hS1 : Hid (Blk y0 w.heap.size 31 (suC x) ∧ Blk y0 (w.heap.size + 1) 55 (slC (c, a, d)) ∧ Below w.heap.size w y0) := ⟨hS0.out.1.below hy0 hS0.out.1.lt, hS0.out.2.1.below hy0 hS0.out.2.1.lt, hS0.out.2.2.trans (hy0.mono hS0.out.2.2.size)⟩
      clear hy0 hS0 HF
      go_wp2_with fail
      refine ⟨rfl, hS1, partsI_force ?_⟩
      simp only [List.cons_append, List.nil_append, List.append_nil, List.filterMap_cons, List.filterMap_nil, List.getElem?_toArray, List.getElem?_cons_zero, List.getElem?_cons_succ]
      go_wp2_with fail
      refine (HG.out _).mono ?_
      rintro e y1 ⟨rfl, hy1⟩
      have hS2 : Hid (Blk y1 w.heap.size 31 (suC x) ∧ Blk y1 (w.heap.size + 1) 55 (slC (c, a, d)) ∧ Below w.heap.size w y1) := ⟨hS1.out.1.below hy1 hS1.out.1.lt, hS1.out.2.1.below hy1 hS1.out.2.1.lt, hS1.out.2.2.trans (hy1.mono hS1.out.2.2.size)⟩
      clear hy1 hS1 HG
      go_wp2_with fail
      refine ⟨rfl, hS2, partsI_force ?_⟩
      simp only [List.cons_append, List.nil_append, List.append_nil, List.filterMap_cons, List.filterMap_nil, List.getElem?_toArray, List.getElem?_cons_zero, List.getElem?_cons_succ]
      go_wp2_with fail
      refine (HR.out _).mono ?_
      rintro e y2 ⟨rfl, hy2⟩
      have hS3 : Hid (Blk y2 w.heap.size 31 (suC x) ∧ Blk y2 (w.heap.size + 1) 55 (slC (c, a, d)) ∧ Below w.heap.size w y2) := ⟨hS2.out.1.below hy2 hS2.out.1.lt, hS2.out.2.1.below hy2 hS2.out.2.1.lt, hS2.out.2.2.trans (hy2.mono hS2.out.2.2.size)⟩
      clear hy2 hS2 HR
      go_wp2_with fail
      refine ⟨rfl, hS3, partsI_force ?_⟩
      simp only [List.cons_append, List.nil_append, List.append_nil, List.filterMap_cons, List.filterMap_nil, List.getElem?_toArray, List.getElem?_cons_zero, List.getElem?_cons_succ]
      go_wp2_with fail
      refine ⟨rfl, hS3, partsI_last ?_⟩
      simp only [List.cons_append, List.nil_append, List.append_nil, List.filterMap_cons, List.filterMap_nil, List.getElem?_toArray, List.getElem?_cons_zero, List.getElem?_cons_succ]
      go_wp2_with fail
      refine ⟨rfl, ?_⟩
      go_wp2_with fail
      go_ret
      exact ⟨rfl, hS3.out.2.2⟩
  · have h1 : Hid (∀ w : World, Calls Try.prog 13 #[.int .i64 b] w fun e w' => e = .returned (.tuple #[.int .i64 HH, .int .i64 0]) ∧ w' = w) := H1.out
    have h2 : Hid (∀ w : World, Calls Try.prog 14 #[.int .i64 b] w fun e w' => e = .returned (.tuple #[.int .i64 L, .int .i64 0]) ∧ w' = w) := H2.out
    have h3 : Hid (∀ w : World, Calls Try.prog 15 #[.int .i64 b] w fun e w' => e = .returned (.tuple #[.int .i64 L, .bool true]) ∧ w' = w) := H3.out
    have h4 : Hid (∀ w : World, Calls Try.prog 16 #[.int .i64 L] w fun e w' => e = .returned (.int .i64 HH) ∧ w' = w) := H4.out rfl
    clear H1 H2 H3 H4
    have hS : Hid (Blk ((w.alloc (.cells (suC x) 31)).alloc (.cells (slC (c, a, d)) 55)) w.heap.size 31 (suC x) ∧ Blk ((w.alloc (.cells (suC x) 31)).alloc (.cells (slC (c, a, d)) 55)) (w.heap.size + 1) 55 (slC (c, a, d)) ∧ Below w.heap.size w ((w.alloc (.cells (suC x) 31)).alloc (.cells (slC (c, a, d)) 55))) := ⟨(Blk.new _ _ _).alloc _, Blk.new1 _ _ _ _, below_new2 _ _ _⟩
    go_enter Try.func4, Try.ntmps4
    go_wp2_with fail
    generalize ((w.alloc (.cells (suC x) 31)).alloc (.cells (slC (c, a, d)) 55)) = v at *
    refine (HA.out _).mono ?_
    rintro e _ ⟨rfl, rfl⟩
    go_wp2_with fail
    refine (h1.out _).mono ?_
    rintro e _ ⟨rfl, rfl⟩
    go_wp2_with fail
    refine (h2.out _).mono ?_
    rintro e _ ⟨rfl, rfl⟩
    go_wp2_with fail
    refine (h3.out _).mono ?_
    rintro e _ ⟨rfl, rfl⟩
    go_wp2_with fail
    refine (h4.out _).mono ?_
    rintro e _ ⟨rfl, rfl⟩
    clear HA h1 h2 h3 h4
    go_upto_region 8 with fail
    rename World => v
    have hS0 : Hid (Blk v.drew w.heap.size 31 (suC x) ∧ Blk v.drew (w.heap.size + 1) 55 (slC (c, a, d)) ∧ Below w.heap.size w v.drew) := ⟨hS.out.1.drew, hS.out.2.1.drew, hS.out.2.2.drew⟩
    clear hS
    cases FI
    · refine wp_region_partsS (fun U => Hid (Blk U w.heap.size 31 (suC x) ∧ Blk U (w.heap.size + 1) 55 (slC (c, a, d)) ∧ Below w.heap.size w U)) [([2, 11], 0, true), ([], 1, true), ([], 4, true), ([], 6, true), ([], 7, true), ([], 8, true), ([], 9, true), ([], 10, true), ([], 3, false), ([], 5, false), ([], 12, false), ([], 13, false)] [14] [] (by kernel_rfl) (by kernel_rfl) hS0 (partsI_yield ?_)
      simp only [List.cons_append, List.nil_append, List.append_nil, List.filterMap_cons, List.filterMap_nil, List.getElem?_toArray, List.getElem?_cons_zero, List.getElem?_cons_succ]
      go_wp2_with fail
      refine ⟨rfl, _, .agg (suC x), rfl, kyields_load (by rfl) 31 _ (by rfl) (w.heap.size) 72 (suF x) (by rfl) _ 31 (fun W hW => hW.out.1) Try.underlying31 rfl sizeSup, partsI_yield ?_⟩
      simp only [Act.put, List.setIfInBounds_toArray, List.set_cons_zero, List.set_cons_succ]
      simp only [List.cons_append, List.nil_append, List.append_nil, List.filterMap_cons, List.filterMap_nil, List.getElem?_toArray, List.getElem?_cons_zero, List.getElem?_cons_succ]
      go_wp2_with fail
      refine ⟨rfl, _, .agg (slC (c, a, d)), rfl, kyields_load (by rfl) 55 _ (by rfl) (w.heap.size + 1) 34 (slF (c, a, d)) (by rfl) _ 55 (fun W hW => hW.out.2.1) Try.underlying55 rfl sizeSlot, partsI_yield ?_⟩
      simp only [Act.put, List.setIfInBounds_toArray, List.set_cons_zero, List.set_cons_succ]
      simp only [List.cons_append, List.nil_append, List.append_nil, List.filterMap_cons, List.filterMap_nil, List.getElem?_toArray, List.getElem?_cons_zero, List.getElem?_cons_succ]
      go_wp2_with fail
      refine ⟨rfl, _, .agg (suC x), rfl, kyields_load (by rfl) 31 _ (by rfl) (w.heap.size) 72 (suF x) (by rfl) _ 31 (fun W hW => hW.out.1) Try.underlying31 rfl sizeSup, partsI_yield ?_⟩
      simp only [Act.put, List.setIfInBounds_toArray, List.set_cons_zero, List.set_cons_succ]
      simp only [List.cons_append, List.nil_append, List.append_nil, List.filterMap_cons, List.filterMap_nil, List.getElem?_toArray, List.getElem?_cons_zero, List.getElem?_cons_succ]
      go_wp2_with fail
      refine ⟨rfl, _, .pointer (some ⟨w.heap.size + 1, 0, none⟩), rfl, Or.inl ⟨by rfl, fun W hW => by go_simp⟩, partsI_yield ?_⟩
      simp only [Act.put, List.setIfInBounds_toArray, List.set_cons_zero, List.set_cons_succ]
      simp only [List.cons_append, List.nil_append, List.append_nil, List.filterMap_cons, List.filterMap_nil, List.getElem?_toArray, List.getElem?_cons_zero, List.getElem?_cons_succ]
      go_wp2_with fail
      refine ⟨rfl, _, .int .u64 (c : Int), rfl, Or.inl ⟨by rfl, fun W hW => by have hc : W.cell? ⟨w.heap.size + 1, 0, none⟩ = some (.int .u64 ((c : Nat) : Int)) := (hW.out.2.1.cell 0).trans rfl; go_simp⟩, partsI_yield ?_⟩
      simp only [Act.put, List.setIfInBounds_toArray, List.set_cons_zero, List.set_cons_succ]
      simp only [List.cons_append, List.nil_append, List.append_nil, List.filterMap_cons, List.filterMap_nil, List.getElem?_toArray, List.getElem?_cons_zero, List.getElem?_cons_succ]
      go_wp2_with fail
      refine ⟨rfl, _, .pointer (some ⟨w.heap.size + 1, 1, none⟩), rfl, Or.inl ⟨by rfl, fun W hW => by go_simp⟩, partsI_yield ?_⟩
      simp only [Act.put, List.setIfInBounds_toArray, List.set_cons_zero, List.set_cons_succ]
      simp only [List.cons_append, List.nil_append, List.append_nil, List.filterMap_cons, List.filterMap_nil, List.getElem?_toArray, List.getElem?_cons_zero, List.getElem?_cons_succ]
      go_wp2_with fail
      refine ⟨rfl, _, .pointer (some ⟨w.heap.size + 1, 1, none⟩), rfl, Or.inl ⟨by rfl, fun W hW => by go_simp⟩, partsI_yield ?_⟩
      simp only [Act.put, List.setIfInBounds_toArray, List.set_cons_zero, List.set_cons_succ]
      simp only [List.cons_append, List.nil_append, List.append_nil, List.filterMap_cons, List.filterMap_nil, List.getElem?_toArray, List.getElem?_cons_zero, List.getElem?_cons_succ]
      go_wp2_with fail
      refine ⟨rfl, _, .int .u32 (a : Int), rfl, Or.inl ⟨by rfl, fun W hW => by have hc : W.cell? ⟨w.heap.size + 1, 1, none⟩ = some (.int .u32 ((a : Nat) : Int)) := (hW.out.2.1.cell 1).trans rfl; go_simp⟩, partsI_force ?_⟩
      simp only [Act.put, List.setIfInBounds_toArray, List.set_cons_zero, List.set_cons_succ]
      simp only [List.cons_append, List.nil_append, List.append_nil, List.filterMap_cons, List.filterMap_nil, List.getElem?_toArray, List.getElem?_cons_zero, List.getElem?_cons_succ]
      go_wp2_with fail
      refine (HF.out _).mono ?_
      rintro e y0 ⟨rfl, hy0⟩
      have hS1 : Hid (Blk y0 w.heap.size 31 (suC x) ∧ Blk y0 (w.heap.size + 1) 55 (slC (c, a, d)) ∧ Below w.heap.size w y0) := ⟨hS0.out.1.below hy0 hS0.out.1.lt, hS0.out.2.1.below hy0 hS0.out.2.1.lt, hS0.out.2.2.trans (hy0.mono hS0.out.2.2.size)⟩
      clear hy0 hS0 HF
      go_wp2_with fail
      refine ⟨rfl, hS1, partsI_force ?_⟩
      simp only [List.cons_append, List.nil_append, List.append_nil, List.filterMap_cons, List.filterMap_nil, List.getElem?_toArray, List.getElem?_cons_zero, List.getElem?_cons_succ]
      go_wp2_with fail
      refine (HG.out _).mono ?_
      rintro e y1 ⟨rfl, hy1⟩
      have hS2 : Hid (Blk y1 w.heap.size 31 (suC x) ∧ Blk y1 (w.heap.size + 1) 55 (slC (c, a, d)) ∧ Below w.heap.size w y1) := ⟨hS1.out.1.below hy1 hS1.out.1.lt, hS1.out.2.1.below hy1 hS1.out.2.1.lt, hS1.out.2.2.trans (hy1.mono hS1.out.2.2.size)⟩
      clear hy1 hS1 HG
      go_wp2_with fail
      refine ⟨rfl, hS2, partsI_force ?_⟩
      simp only [List.cons_append, List.nil_append, List.append_nil, List.filterMap_cons, List.filterMap_nil, List.getElem?_toArray, List.getElem?_cons_zero, List.getElem?_cons_succ]
      go_wp2_with fail
      refine (HR.out _).mono ?_
      rintro e y2 ⟨rfl, hy2⟩
      have hS3 : Hid (Blk y2 w.heap.size 31 (suC x) ∧ Blk y2 (w.heap.size + 1) 55 (slC (c, a, d)) ∧ Below w.heap.size w y2) := ⟨hS2.out.1.below hy2 hS2.out.1.lt, hS2.out.2.1.below hy2 hS2.out.2.1.lt, hS2.out.2.2.trans (hy2.mono hS2.out.2.2.size)⟩
      clear hy2 hS2 HR
      go_wp2_with fail
      refine ⟨rfl, hS3, partsI_force ?_⟩
      simp only [List.cons_append, List.nil_append, List.append_nil, List.filterMap_cons, List.filterMap_nil, List.getElem?_toArray, List.getElem?_cons_zero, List.getElem?_cons_succ]
      go_wp2_with fail
      refine ⟨rfl, hS3, partsI_last ?_⟩
      simp only [List.cons_append, List.nil_append, List.append_nil, List.filterMap_cons, List.filterMap_nil, List.getElem?_toArray, List.getElem?_cons_zero, List.getElem?_cons_succ]
      go_wp2_with fail
      refine ⟨rfl, ?_⟩
      go_wp2_with fail
      go_ret
      exact ⟨rfl, hS3.out.2.2⟩
    · refine wp_region_partsS (fun U => Hid (Blk U w.heap.size 31 (suC x) ∧ Blk U (w.heap.size + 1) 55 (slC (c, a, d)) ∧ Below w.heap.size w U)) [([2, 11], 0, true), ([], 1, true), ([], 4, true), ([], 6, true), ([], 7, true), ([], 8, true), ([], 9, true), ([], 10, true), ([], 3, false), ([], 5, false), ([], 12, false), ([], 13, false)] [14] [] (by kernel_rfl) (by kernel_rfl) hS0 (partsI_yield ?_)
      simp only [List.cons_append, List.nil_append, List.append_nil, List.filterMap_cons, List.filterMap_nil, List.getElem?_toArray, List.getElem?_cons_zero, List.getElem?_cons_succ]
      go_wp2_with fail
      refine ⟨rfl, _, .agg (suC x), rfl, kyields_load (by rfl) 31 _ (by rfl) (w.heap.size) 72 (suF x) (by rfl) _ 31 (fun W hW => hW.out.1) Try.underlying31 rfl sizeSup, partsI_yield ?_⟩
      simp only [Act.put, List.setIfInBounds_toArray, List.set_cons_zero, List.set_cons_succ]
      simp only [List.cons_append, List.nil_append, List.append_nil, List.filterMap_cons, List.filterMap_nil, List.getElem?_toArray, List.getElem?_cons_zero, List.getElem?_cons_succ]
      go_wp2_with fail
      refine ⟨rfl, _, .agg (slC (c, a, d)), rfl, kyields_load (by rfl) 55 _ (by rfl) (w.heap.size + 1) 34 (slF (c, a, d)) (by rfl) _ 55 (fun W hW => hW.out.2.1) Try.underlying55 rfl sizeSlot, partsI_yield ?_⟩
      simp only [Act.put, List.setIfInBounds_toArray, List.set_cons_zero, List.set_cons_succ]
      simp only [List.cons_append, List.nil_append, List.append_nil, List.filterMap_cons, List.filterMap_nil, List.getElem?_toArray, List.getElem?_cons_zero, List.getElem?_cons_succ]
      go_wp2_with fail
      refine ⟨rfl, _, .agg (suC x), rfl, kyields_load (by rfl) 31 _ (by rfl) (w.heap.size) 72 (suF x) (by rfl) _ 31 (fun W hW => hW.out.1) Try.underlying31 rfl sizeSup, partsI_yield ?_⟩
      simp only [Act.put, List.setIfInBounds_toArray, List.set_cons_zero, List.set_cons_succ]
      simp only [List.cons_append, List.nil_append, List.append_nil, List.filterMap_cons, List.filterMap_nil, List.getElem?_toArray, List.getElem?_cons_zero, List.getElem?_cons_succ]
      go_wp2_with fail
      refine ⟨rfl, _, .pointer (some ⟨w.heap.size + 1, 0, none⟩), rfl, Or.inl ⟨by rfl, fun W hW => by go_simp⟩, partsI_yield ?_⟩
      simp only [Act.put, List.setIfInBounds_toArray, List.set_cons_zero, List.set_cons_succ]
      simp only [List.cons_append, List.nil_append, List.append_nil, List.filterMap_cons, List.filterMap_nil, List.getElem?_toArray, List.getElem?_cons_zero, List.getElem?_cons_succ]
      go_wp2_with fail
      refine ⟨rfl, _, .int .u64 (c : Int), rfl, Or.inl ⟨by rfl, fun W hW => by have hc : W.cell? ⟨w.heap.size + 1, 0, none⟩ = some (.int .u64 ((c : Nat) : Int)) := (hW.out.2.1.cell 0).trans rfl; go_simp⟩, partsI_yield ?_⟩
      simp only [Act.put, List.setIfInBounds_toArray, List.set_cons_zero, List.set_cons_succ]
      simp only [List.cons_append, List.nil_append, List.append_nil, List.filterMap_cons, List.filterMap_nil, List.getElem?_toArray, List.getElem?_cons_zero, List.getElem?_cons_succ]
      go_wp2_with fail
      refine ⟨rfl, _, .pointer (some ⟨w.heap.size + 1, 1, none⟩), rfl, Or.inl ⟨by rfl, fun W hW => by go_simp⟩, partsI_yield ?_⟩
      simp only [Act.put, List.setIfInBounds_toArray, List.set_cons_zero, List.set_cons_succ]
      simp only [List.cons_append, List.nil_append, List.append_nil, List.filterMap_cons, List.filterMap_nil, List.getElem?_toArray, List.getElem?_cons_zero, List.getElem?_cons_succ]
      go_wp2_with fail
      refine ⟨rfl, _, .pointer (some ⟨w.heap.size + 1, 1, none⟩), rfl, Or.inl ⟨by rfl, fun W hW => by go_simp⟩, partsI_yield ?_⟩
      simp only [Act.put, List.setIfInBounds_toArray, List.set_cons_zero, List.set_cons_succ]
      simp only [List.cons_append, List.nil_append, List.append_nil, List.filterMap_cons, List.filterMap_nil, List.getElem?_toArray, List.getElem?_cons_zero, List.getElem?_cons_succ]
      go_wp2_with fail
      refine ⟨rfl, _, .int .u32 (a : Int), rfl, Or.inl ⟨by rfl, fun W hW => by have hc : W.cell? ⟨w.heap.size + 1, 1, none⟩ = some (.int .u32 ((a : Nat) : Int)) := (hW.out.2.1.cell 1).trans rfl; go_simp⟩, partsI_force ?_⟩
      simp only [Act.put, List.setIfInBounds_toArray, List.set_cons_zero, List.set_cons_succ]
      simp only [List.cons_append, List.nil_append, List.append_nil, List.filterMap_cons, List.filterMap_nil, List.getElem?_toArray, List.getElem?_cons_zero, List.getElem?_cons_succ]
      go_wp2_with fail
      refine (HF.out _).mono ?_
      rintro e y0 ⟨rfl, hy0⟩
      have hS1 : Hid (Blk y0 w.heap.size 31 (suC x) ∧ Blk y0 (w.heap.size + 1) 55 (slC (c, a, d)) ∧ Below w.heap.size w y0) := ⟨hS0.out.1.below hy0 hS0.out.1.lt, hS0.out.2.1.below hy0 hS0.out.2.1.lt, hS0.out.2.2.trans (hy0.mono hS0.out.2.2.size)⟩
      clear hy0 hS0 HF
      go_wp2_with fail
      refine ⟨rfl, hS1, partsI_force ?_⟩
      simp only [List.cons_append, List.nil_append, List.append_nil, List.filterMap_cons, List.filterMap_nil, List.getElem?_toArray, List.getElem?_cons_zero, List.getElem?_cons_succ]
      go_wp2_with fail
      refine (HG.out _).mono ?_
      rintro e y1 ⟨rfl, hy1⟩
      have hS2 : Hid (Blk y1 w.heap.size 31 (suC x) ∧ Blk y1 (w.heap.size + 1) 55 (slC (c, a, d)) ∧ Below w.heap.size w y1) := ⟨hS1.out.1.below hy1 hS1.out.1.lt, hS1.out.2.1.below hy1 hS1.out.2.1.lt, hS1.out.2.2.trans (hy1.mono hS1.out.2.2.size)⟩
      clear hy1 hS1 HG
      go_wp2_with fail
      refine ⟨rfl, hS2, partsI_force ?_⟩
      simp only [List.cons_append, List.nil_append, List.append_nil, List.filterMap_cons, List.filterMap_nil, List.getElem?_toArray, List.getElem?_cons_zero, List.getElem?_cons_succ]
      go_wp2_with fail
      refine (HR.out _).mono ?_
      rintro e y2 ⟨rfl, hy2⟩
      have hS3 : Hid (Blk y2 w.heap.size 31 (suC x) ∧ Blk y2 (w.heap.size + 1) 55 (slC (c, a, d)) ∧ Below w.heap.size w y2) := ⟨hS2.out.1.below hy2 hS2.out.1.lt, hS2.out.2.1.below hy2 hS2.out.2.1.lt, hS2.out.2.2.trans (hy2.mono hS2.out.2.2.size)⟩
      clear hy2 hS2 HR
      go_wp2_with fail
      refine ⟨rfl, hS3, partsI_force ?_⟩
      simp only [List.cons_append, List.nil_append, List.append_nil, List.filterMap_cons, List.filterMap_nil, List.getElem?_toArray, List.getElem?_cons_zero, List.getElem?_cons_succ]
      go_wp2_with fail
      refine ⟨rfl, hS3, partsI_last ?_⟩
      simp only [List.cons_append, List.nil_append, List.append_nil, List.filterMap_cons, List.filterMap_nil, List.getElem?_toArray, List.getElem?_cons_zero, List.getElem?_cons_succ]
      go_wp2_with fail
      refine ⟨rfl, ?_⟩
      go_wp2_with fail
      go_ret
      exact ⟨rfl, hS3.out.2.2⟩
end Go.Proofs.Ytalnfphlhcojcaa
