/- FdNil: nil descriptors. -/
import Derived.Test.YtldkmogennmldaaHSegsW
import Derived.Handy
import Derived.Deep.MidRow
import Derived.Great.BuildSlice
import Derived.BigQuiet
import Derived.Deep.QuietTactic
import Derived.Deep.Cut
import Derived.Deep.DeepCutAuto
import Derived.OwnWalk
import Derived.Maps.AppendAt

namespace Go.Proofs.Ytldkmogennmldaa
open Go Go.RowKit
set_option linter.unusedSimpArgs false
set_option linter.unusedVariables false
/-- a description -/
structure Dsc where
  i : Int
  g : Int
  a : Int
def dsF (x : Dsc) (j : Nat) : Int := if j = 0 then x.i else if j = 1 then x.g else x.a
/-- its cells -/
def dsC (x : Dsc) : Array Value := #[.int .i64 x.i, .int .i64 x.g, .int .i64 x.a]
def ds0 : Dsc := ⟨0, 0, 0⟩
/-- the cells of 64 -/
def fdF (O : Nat → Dsc) (j : Nat) : Value := .int .i64 (dsF (O (j / 3)) (j % 3))
def FdB (w : World) (b : Nat) (O : Nat → Dsc) : Prop := Blk w b 52 (va 192 (fdF O))
/-- one of them turned -/
def upD (O : Nat → Dsc) (n : Nat) (x : Dsc) : Nat → Dsc := fun j => if j = n then x else O j
theorem FdB.lt {w : World} {b : Nat} {O : Nat → Dsc} (h : FdB w b O) : b < w.heap.size := Blk.lt h
theorem FdB.below {w w' : World} {b : Nat} {O : Nat → Dsc} (h : FdB w b O) (hb : Below w.heap.size w w') : FdB w' b O := Blk.below h hb h.lt
theorem FdB.cell {w : World} {b : Nat} {O : Nat → Dsc} (h : FdB w b O) (n j : Nat) (hn : n < 64) (hj : j < 3) : w.cell? ⟨b, n * 3 + j, none⟩ = some (.int .i64 (dsF (O n) j)) := by
  have h1 := Blk.cell h (n * 3 + j)
  rw [va_at _ (by omega)] at h1
  rw [h1]
  unfold fdF
  rw [show (n * 3 + j) / 3 = n by omega, show (n * 3 + j) % 3 = j by omega]
theorem fd_over (O : Nat → Dsc) (n : Nat) (hn : n < 64) (x : Dsc) : va 192 (over (fdF O) (n * 3) (dsC x).toList) = va 192 (fdF (upD O n x)) := va_congr fun i hi => by
  unfold over fdF upD
  have hl : (dsC x).toList.length = 3 := rfl
  rw [hl]
  by_cases h : n * 3 ≤ i ∧ i < n * 3 + 3
  · rw [if_pos h, if_pos (by omega)]
    obtain ⟨k, rfl⟩ : ∃ k, i = n * 3 + k := ⟨i - n * 3, by omega⟩
    rw [show n * 3 + k - n * 3 = k by omega, show (n * 3 + k) % 3 = k by omega]
    have : k < 3 := by omega
    match k, this with
    | 0, _ => rfl
    | 1, _ => rfl
    | 2, _ => rfl
  · rw [if_neg h, if_neg (by omega)]
theorem FdB.put {w : World} {b : Nat} {O : Nat → Dsc} (h : FdB w b O) (n : Nat) (hn : n < 64) (x : Dsc) : FdB (w.setCells b (n * 3) (dsC x).toList) b (upD O n x) := by
  have := Blk.cells_put (dsC x).toList (n * 3) w _ h
  rw [fd_over O n hn x] at this
  exact this
theorem FdB.range {w : World} {b : Nat} {O : Nat → Dsc} (h : FdB w b O) (n : Nat) (hn : n < 64) : w.rangeAt b (n * 3) (dsC (O n)).toList := by
  have := Blk.range h (n * 3) 3 (by omega)
  have e : ((List.range 3).map fun j => fdF O (n * 3 + j)) = (dsC (O n)).toList := by
    show [fdF O (n * 3 + 0), fdF O (n * 3 + 1), fdF O (n * 3 + 2)] = _
    unfold fdF
    rw [show (n * 3 + 0) / 3 = n by omega, show (n * 3 + 1) / 3 = n by omega, show (n * 3 + 2) / 3 = n by omega, show (n * 3 + 0) % 3 = 0 by omega, show (n * 3 + 1) % 3 = 1 by omega, show (n * 3 + 2) % 3 = 2 by omega]
    rfl
  rw [e] at this
  exact this
theorem ds_size : (Try.prog.info? 42).map (·.size) = some 3 := by kernel_rfl
theorem ds_all (x : Dsc) : (dsC x).all (·.oneCell') = true := by simp [dsC, Value.oneCell']
/-- which are open: of a nil one none is -/
def opn (O : Nat → Dsc) (n : Int) : Prop := 0 ≤ n ∧ n < 64 ∧ (O n.toNat).i ≠ 0
/-- where a description is kept -/
theorem fof_yes (b : Nat) (O : Nat → Dsc) (n : Nat) (hn : n < 64) (ho : (O n).i ≠ 0) (w : World) (h : FdB w b O) : Calls Try.prog 27 #[.pointer (some ⟨b, 0, none⟩), .int .i64 (n : Int)] w fun e w' => e = .returned (.pointer (some ⟨b, n * 3, none⟩)) ∧ w' = w := by
  have c0 := h.cell n 0 hn (by decide)
  rw [show dsF (O n) 0 = (O n).i from rfl, Nat.add_zero] at c0
  have n1 : ¬ (n : Int) < 0 := by omega
  have n2 : ¬ 64 ≤ (n : Int) := by omega
  have n3 : (n : Int) < 64 := by omega
  have n4 : (0 : Int) ≤ (n : Int) := by omega
  have ho2 : ¬ (O n).i = 0 := ho
  generalize (O n).i = i at *
  go_enter Try.func27, Try.ntmps27
  go_wp2_with fail
  go_ret
  exact ⟨rfl, rfl⟩
theorem fof_no (b : Nat) (O : Nat → Dsc) (n : Int) (ho : ¬ opn O n) (w : World) (h : FdB w b O) : Calls Try.prog 27 #[.pointer (some ⟨b, 0, none⟩), .int .i64 n] w fun e w' => e = .returned (.pointer none) ∧ w' = w := by
  by_cases h1 : n < 0
  · clear h ho
    go_enter Try.func27, Try.ntmps27
    go_wp2_with fail
    go_ret
    exact ⟨rfl, rfl⟩
  by_cases h2 : 64 ≤ n
  · clear h ho
    go_enter Try.func27, Try.ntmps27
    go_wp2_with fail
    go_ret
    exact ⟨rfl, rfl⟩
  obtain ⟨k, rfl⟩ : ∃ k : Nat, n = (k : Int) := ⟨n.toNat, by omega⟩
  have hk : k < 64 := by omega
  have c0 := h.cell k 0 hk (by decide)
  have e0 : (O k).i = 0 := Classical.byContradiction fun q => ho ⟨by omega, by omega, by simpa using q⟩
  rw [show dsF (O k) 0 = (O k).i from rfl, Nat.add_zero, e0] at c0
  have n1 : ¬ (k : Int) < 0 := by omega
  have n2 : ¬ 64 ≤ (k : Int) := by omega
  have n3 : (k : Int) < 64 := by omega
  have n4 : (0 : Int) ≤ (k : Int) := by omega
  clear h ho h1 h2 e0
  go_enter Try.func27, Try.ntmps27
  go_wp2_with fail
  go_ret
  exact ⟨rfl, rfl⟩
theorem fof_nil (n : Int) (w : World) : Calls Try.prog 27 #[.pointer none, .int .i64 n] w fun e w' => e = .returned (.pointer none) ∧ w' = w := by
  go_enter Try.func27, Try.ntmps27
  go_wp2_with fail
  go_ret
  exact ⟨rfl, rfl⟩
end Go.Proofs.Ytldkmogennmldaa

namespace Go.Proofs.Ytldkmogennmldaa
open Go Go.RowKit
set_option linter.unusedSimpArgs false
set_option linter.unusedVariables false
/-- only one block turns -/
structure OneT (b : Nat) (w w' : World) : Prop where
  os : w'.os = w.os
  tape : w'.tape = w.tape
  output : w'.output = w.output
  size : w.heap.size ≤ w'.heap.size
  block : ∀ k, k < w.heap.size → k ≠ b → w'.heap[k]? = w.heap[k]?
theorem OneT.of_below {b : Nat} {w w' : World} (h : Below w.heap.size w w') : OneT b w w' := ⟨h.os, h.tape, h.output, h.size, fun k hk _ => h.block k hk⟩
theorem OneT.below {b B : Nat} {w w' : World} (h : OneT b w w') (hB : B ≤ w.heap.size) (hb : B ≤ b) : Below B w w' := ⟨h.os, h.tape, h.output, h.size, fun k hk => h.block k (by omega) (by omega)⟩
theorem OneT.tr {b : Nat} {u v w : World} (h : OneT b u v) (k : OneT b v w) : OneT b u w := ⟨k.os.trans h.os, k.tape.trans h.tape, k.output.trans h.output, Nat.le_trans h.size k.size, fun z hz hn => (k.block z (Nat.lt_of_lt_of_le hz h.size) hn).trans (h.block z hz hn)⟩
theorem OneT.cell (w : World) (b i : Nat) (v : Value) : OneT b w (w.setCell ⟨b, i, none⟩ v) := by
  have t : Below b w (w.setCell ⟨b, i, none⟩ v) := (Below.refl b w).setCell (p := ⟨b, i, none⟩) (Nat.le_refl _) _
  exact ⟨t.os, t.tape, t.output, t.size, fun k hk hn => Below.heap_setCell _ _ _ _ (fun e => hn (by rw [e]))⟩
theorem OneT.cells (b : Nat) : ∀ (vs : List Value) (o : Nat) (w : World), OneT b w (w.setCells b o vs)
  | [], o, w => OneT.of_below (Below.refl _ _)
  | v :: vs, o, w => by
    rw [World.setCells]
    exact (OneT.cell w b o v).tr (OneT.cells b vs (o + 1) _)
theorem fz_of {t : TypeId} {v : Value} (h : (Try.prog.info? t).bind (·.zero) = some v) (w : World) : (zeroValue t).run Try.prog w = .ok v w := by
  cases hq : Try.prog.info? t with
  | none => simp [hq] at h
  | some i =>
    have hi : i.zero = some v := by simpa [hq] using h
    simp [zeroValue, typeInfo, hq, hi]
theorem ds_zero (w : World) : (zeroValue 42).run Try.prog w = .ok (.agg (dsC ds0)) w := fz_of (by kernel_rfl) w
theorem ds_built0 : Try.prog.built 42 [] = some (dsC ds0) := by kernel_rfl
/-- what Get answers -/
noncomputable def gtD (O : Nat → Dsc) (n : Int) : Dsc := open Classical in if opn O n then O n.toNat else ds0
noncomputable def gtE (O : Nat → Dsc) (n : Int) : Int := open Classical in if opn O n then 0 else 231
section
variable {b : Nat} {O : Nat → Dsc} {n : Int}
theorem gt_yes (h : opn O n) : gtD O n = O n.toNat ∧ gtE O n = 0 := by unfold gtD gtE; rw [if_pos h, if_pos h]; exact ⟨rfl, rfl⟩
theorem gt_no (h : ¬ opn O n) : gtD O n = ds0 ∧ gtE O n = 231 := by unfold gtD gtE; rw [if_neg h, if_neg h]; exact ⟨rfl, rfl⟩
theorem fof_opn (h : opn O n) (w : World) (hb : FdB w b O) : Calls Try.prog 27 #[.pointer (some ⟨b, 0, none⟩), .int .i64 n] w fun e w' => e = .returned (.pointer (some ⟨b, n.toNat * 3, none⟩)) ∧ w' = w := by
  obtain ⟨h1, h2, h3⟩ := h
  obtain ⟨k, rfl⟩ : ∃ k : Nat, n = (k : Int) := ⟨n.toNat, by omega⟩
  have := fof_yes b O k (by omega) (by simpa using h3) w hb
  simpa using this
set_option maxRecDepth 100000 in
set_option maxHeartbeats 4000000 in
/-- Get, by what 'of' answers -/
theorem fget_gen (p : Value) (n : Int) (q : Option Addr) (x : Dsc) (er : Int) (hq : (q = none ∧ x = ds0 ∧ er = 231) ∨ ∃ g o, q = some ⟨g, o, none⟩ ∧ er = 0) (w : World) (HO : ∀ V, Below w.heap.size w V → Calls Try.prog 27 #[p, .int .i64 n] V fun e w' => e = .returned (.pointer q) ∧ w' = V) (HR : ∀ V, Below w.heap.size w V → ∀ g o, q = some ⟨g, o, none⟩ → V.rangeAt g o (dsC x).toList) :
    Calls Try.prog 20 #[p, .int .i64 n] w fun e w' => e = .returned (.tuple #[.agg (dsC x), .int .i64 er]) ∧ Below w.heap.size w w' := by
  have hz := ds_zero
  have hbt := ds_built0
  have hb1 : Below w.heap.size w (w.alloc (.cells (dsC ds0) 42)) := below_new1 _ _
  have u1 : Blk (w.alloc (.cells (dsC ds0) 42)) w.heap.size 42 (dsC ds0) := Blk.new _ _ _
  have H1 := HO _ hb1
  have HR1 := HR _ hb1
  have HE : Hid (Blk ((w.alloc (.cells (dsC ds0) 42)).setRow w.heap.size (dsC x)) w.heap.size 42 (dsC x) ∧ Below w.heap.size w ((w.alloc (.cells (dsC ds0) 42)).setRow w.heap.size (dsC x))) := ⟨u1.set _, below_setRow hb1 (Nat.le_refl _) _⟩
  have hsx : (dsC x).size = 3 := rfl
  clear HO HR hb1
  go_enter Try.func20, Try.ntmps20
  go_wp2_with fail
  generalize (w.alloc (.cells (dsC ds0) 42)) = w1 at *
  refine H1.mono ?_
  rintro e w2 ⟨rfl, rfl⟩
  rcases hq with ⟨rfl, rfl, rfl⟩ | ⟨g, o, rfl, rfl⟩
  · clear H1 HR1
    go_wp2_with (first
      | (refine wpList_buildTo (by rfl) 42 #[] (by rfl) _ rfl (dsC ds0) (by exact hbt) ?_; simp only [Act.put, List.setIfInBounds_toArray, List.set_cons_zero, List.set_cons_succ])
      | (refine wpList_store_row (by rfl) 42 _ _ (by rfl) (w.heap.size) (dsC ds0) (by rfl) (by rfl) 42 (dsC ds0) (by exact u1) (ds_size.trans (by rfl)) (by rfl) (ds_all _) ?_; simp only [Act.put, List.setIfInBounds_toArray, List.set_cons_zero, List.set_cons_succ])
      | fail)
    try simp only [Exit.inBlock, Exit.then]
    refine bodyPost_ret (results_row2 Try.results20 _ _ (w.heap.size) 42 (dsC ds0) (0, 0) _ rfl HE.out.1 Try.underlying42 rfl (ds_size.trans (by rfl))) rfl ?_
    exact ⟨rfl, HE.out.2⟩
  · have hr := HR1 g o rfl
    clear H1 HR1
    go_wp2_with (first
      | (refine wpList_load_mid (by rfl) 42 _ (by rfl) g o (by rfl) (dsC x).toList _ (by exact hr) Try.underlying42 (by rfl) (ds_size.trans (by rfl)) ?_; simp only [Act.put, List.setIfInBounds_toArray, List.set_cons_zero, List.set_cons_succ, Array.toArray_toList])
      | (refine wpList_store_row (by rfl) 42 _ _ (by rfl) (w.heap.size) (dsC x) (by rfl) (by rfl) 42 (dsC ds0) (by exact u1) (ds_size.trans (by rfl)) (by rfl) (ds_all _) ?_; simp only [Act.put, List.setIfInBounds_toArray, List.set_cons_zero, List.set_cons_succ])
      | fail)
    try simp only [Exit.inBlock, Exit.then]
    refine bodyPost_ret (results_row2 Try.results20 _ _ (w.heap.size) 42 (dsC x) (0, 0) _ rfl HE.out.1 Try.underlying42 rfl (ds_size.trans (by rfl))) rfl ?_
    exact ⟨rfl, HE.out.2⟩
theorem fget_any (n : Int) (w : World) (h : FdB w b O) : Calls Try.prog 20 #[.pointer (some ⟨b, 0, none⟩), .int .i64 n] w fun e w' => e = .returned (.tuple #[.agg (dsC (gtD O n)), .int .i64 (gtE O n)]) ∧ Below w.heap.size w w' := by
  by_cases ho : opn O n
  · rw [(gt_yes ho).1, (gt_yes ho).2]
    refine fget_gen _ n (some ⟨b, n.toNat * 3, none⟩) _ 0 (.inr ⟨_, _, rfl, rfl⟩) w (fun V hV => fof_opn ho V (h.below hV)) fun V hV g o e => ?_
    injection e with e
    injection e with e1 e2
    subst e1 e2
    exact (h.below hV).range _ (by have := ho.1; have := ho.2.1; omega)
  · rw [(gt_no ho).1, (gt_no ho).2]
    exact fget_gen _ n none _ 231 (.inl ⟨rfl, rfl, rfl⟩) w (fun V hV => fof_no b O n ho V (h.below hV)) fun V hV g o e => by cases e
theorem fget_nil (n : Int) (w : World) : Calls Try.prog 20 #[.pointer none, .int .i64 n] w fun e w' => e = .returned (.tuple #[.agg (dsC ds0), .int .i64 231]) ∧ Below w.heap.size w w' :=
  fget_gen _ n none _ 231 (.inl ⟨rfl, rfl, rfl⟩) w (fun V hV => fof_nil n V) fun V hV g o e => by cases e
theorem fclose_gen (p : Value) (n : Int) (w : World) (H1 : Calls Try.prog 27 #[p, .int .i64 n] w fun e w' => e = .returned (.pointer none) ∧ w' = w) : Calls Try.prog 15 #[p, .int .i64 n] w fun e w' => e = .returned (.int .i64 231) ∧ w' = w := by
  go_enter Try.func15, Try.ntmps15
  go_wp2_with fail
  refine H1.mono ?_
  rintro e w2 ⟨rfl, rfl⟩
  go_wp2_with fail
  go_ret
  exact ⟨rfl, rfl⟩
theorem fmove_gen (p : Value) (n at' : Int) (w : World) (H1 : Calls Try.prog 27 #[p, .int .i64 n] w fun e w' => e = .returned (.pointer none) ∧ w' = w) : Calls Try.prog 22 #[p, .int .i64 n, .int .i64 at'] w fun e w' => e = .returned (.int .i64 231) ∧ w' = w := by
  go_enter Try.func22, Try.ntmps22
  go_wp2_with fail
  refine H1.mono ?_
  rintro e w2 ⟨rfl, rfl⟩
  go_wp2_with fail
  go_ret
  exact ⟨rfl, rfl⟩
end
end Go.Proofs.Ytldkmogennmldaa

namespace Go.Proofs.Ytldkmogennmldaa
open Go Go.RowKit
set_option linter.unusedSimpArgs false
set_option linter.unusedVariables false
theorem OneT.drew {b : Nat} {w v : World} (h : OneT b w v) : OneT b w v.drew := ⟨h.os, h.tape, h.output, h.size, h.block⟩
theorem fdyields_load {P : Program} {ops : Array Oper} {S : World → Prop} {op : Oper} {a : Act} (hw : Region.wanted op (yielded ops a.tmps) = true) (ty : TypeId) (x : Operand) (ho : op.op = .load ty x)
    (b n : Nat) (f : Nat → Value) (hx : a.eval x = .pointer (some ⟨b, 0, none⟩)) (d : TypeDesc) (t : Nat) (hS : ∀ w, S w → Blk w b t (va n f))
    (hu : P.underlying ty = some d) (hd : d.isRow = true) (hi : (P.info? ty).map (·.size) = some n) : YieldsIf P ops S op (.agg (va n f)) a :=
  yieldsIf_load_mid hw ty x ho b 0 hx _ d (fun w h => by
    have := (hS w h).range 0 n (by omega)
    simpa using this) hu hd (hi.trans (by simp))
section
variable {b : Nat} {O : Nat → Dsc}
def dsV (x : Dsc) (j : Nat) : Value := .int .i64 (dsF x j)
theorem fof_nat (b : Nat) (O : Nat → Dsc) (n : Nat) (hn : n < 64) (ho : (O n).i = 0) (w : World) (h : FdB w b O) : Calls Try.prog 27 #[.pointer (some ⟨b, 0, none⟩), .int .i64 (n : Int)] w fun e w' => e = .returned (.pointer none) ∧ w' = w :=
  fof_no b O n (fun q => q.2.2 (by simpa using ho)) w h
set_option maxRecDepth 100000 in
set_option maxHeartbeats 4000000 in
theorem flay_ok (k : Nat) (hk : k < 64) (h0 : (O k).i = 0) (hl : ∀ j, j < k → (O j).i ≠ 0) (x : Dsc) (w : World) (h : FdB w b O) : Calls Try.prog 26 #[.pointer (some ⟨b, 0, none⟩), .agg (dsC x)] w fun e w' => e = .returned (.tuple #[.int .i64 (k : Int), .int .i64 0]) ∧ FdB w' b (upD O k x) ∧ OneT b w w' := by
  have hb1 : Below w.heap.size w (w.alloc (.cells (dsC x) 42)) := below_new1 _ _
  have hF := h.below hb1
  have u1 : Blk (w.alloc (.cells (dsC x) 42)) w.heap.size 42 (dsC x) := Blk.new _ _ _
  have hne : w.heap.size ≠ b := fun q => by have := h.lt; omega
  have HOF : Hid (∀ j, j < k → Calls Try.prog 27 #[.pointer (some ⟨b, 0, none⟩), .int .i64 (j : Int)] (w.alloc (.cells (dsC x) 42)) fun e w' => e = .returned (.pointer (some ⟨b, j * 3, none⟩)) ∧ w' = (w.alloc (.cells (dsC x) 42))) := fun j hj => fof_yes b O j (by omega) (hl j hj) _ hF
  have HO0 : Hid (Calls Try.prog 27 #[.pointer (some ⟨b, 0, none⟩), .int .i64 (k : Int)] (w.alloc (.cells (dsC x) 42)) fun e w' => e = .returned (.pointer none) ∧ w' = (w.alloc (.cells (dsC x) 42))) := fof_nat b O k hk h0 _ hF
  have HE : Hid (Blk (w.alloc (.cells (dsC x) 42)) w.heap.size 42 (dsC x) ∧ FdB (w.alloc (.cells (dsC x) 42)) b O ∧ OneT b w (w.alloc (.cells (dsC x) 42)) ∧ k < 64) := ⟨u1, hF, OneT.of_below hb1, hk⟩
  clear hb1 hF u1 h hl h0 hk
  go_enter Try.func26, Try.ntmps26
  go_wp2_with fail
  generalize (w.alloc (.cells (dsC x) 42)) = w1 at *
  go_loopw [9] (fun v wr => Hid (∃ i : Nat, i ≤ k ∧ v = .int .i64 (i : Int) ∧ wr = w1)) (fun v _ => 64 - (intOf v).toNat)
  case atStart => exact ⟨0, Nat.zero_le _, rfl, rfl⟩
  case round =>
    obtain ⟨i, hi, rfl, rfl⟩ := Hid.out hrel
    clear hrel
    have i1 : (i : Int) < 64 := by have := HE.out.2.2.2; omega
    by_cases hik : i < k
    · have HI : Hid (i < k) := hik
      have H1 := HOF.out i hik
      clear hik hi
      go_wp2_with fail
      refine H1.mono ?_
      rintro e w2 ⟨rfl, rfl⟩
      clear H1
      go_wp2_with fail
      go_roundw
      case rel => exact ⟨i + 1, HI.out, by first | rfl | go_num | simp, by first | rfl | trivial⟩
      case measure => simp [intOf]; omega
    · obtain rfl : i = k := by omega
      have H1 := HO0.out
      have i2 : (0 : Int) ≤ (i : Int) := by omega
      clear hik hi
      go_wp2_with fail
      refine H1.mono ?_
      rintro e w2 ⟨rfl, rfl⟩
      clear H1
      obtain ⟨W1, rfl⟩ : ∃ u, u = w2 := ⟨_, rfl⟩
      go_wp2_with fail
      refine wp_region_partsS (fun W => Blk W w.heap.size 42 (va 3 (dsV x))) [([0, 1], 2, true), ([], 3, false), ([], 4, false)] [5] [6] (by kernel_rfl) (by kernel_rfl) HE.out.1 (partsI_yield ?_)
      simp only [List.cons_append, List.nil_append, List.append_nil, List.filterMap_cons, List.filterMap_nil, List.getElem?_toArray, List.getElem?_cons_zero, List.getElem?_cons_succ]
      go_wp2_with fail
      refine ⟨rfl, _, .agg (dsC x), rfl, fdyields_load (by rfl) 42 _ (by rfl) w.heap.size 3 (dsV x) (by rfl) _ 42 (fun W hW => hW) Try.underlying42 rfl ds_size, partsI_force ?_⟩
      simp only [Act.put, List.setIfInBounds_toArray, List.set_cons_zero, List.set_cons_succ]
      simp only [List.cons_append, List.nil_append, List.append_nil, List.filterMap_cons, List.filterMap_nil, List.getElem?_toArray, List.getElem?_cons_zero, List.getElem?_cons_succ]
      go_wp2_with fail
      refine ⟨rfl, HE.out.1.drew, partsI_force ?_⟩
      simp only [List.cons_append, List.nil_append, List.append_nil, List.filterMap_cons, List.filterMap_nil, List.getElem?_toArray, List.getElem?_cons_zero, List.getElem?_cons_succ]
      go_wp2_with fail
      have hth : W1.drew.there b (i * 3) (dsC x).size := Blk.there (Blk.drew HE.out.2.1) _ _ (by rw [va_size]; have := HE.out.2.2.2; show i * 3 + 3 ≤ 192; omega)
      have HE2 : Hid (FdB (W1.drew.setCells b (i * 3) (dsC x).toList) b (upD O i x) ∧ OneT b w (W1.drew.setCells b (i * 3) (dsC x).toList)) := ⟨FdB.put (Blk.drew HE.out.2.1) _ HE.out.2.2.2 _, (OneT.drew HE.out.2.2.1).tr (OneT.cells _ _ _ _)⟩
      have hst := run_storeCells_cells (P := Try.prog) b (i * 3) (dsC x).toList 0 W1.drew (fun j hj => by simpa using (hth j (by simpa using hj)).1) (fun j hj => by simpa using (hth j (by simpa using hj)).2) (fun v hv => (Array.all_eq_true_iff_forall_mem.1 (ds_all x)) v (by simpa using hv))
      simp only [Nat.add_zero] at hst
      generalize W1.drew.setCells b (i * 3) (dsC x).toList = W9 at *
      refine ⟨rfl, HE.out.1.drew, partsI_last ?_⟩
      simp only [List.cons_append, List.nil_append, List.append_nil, List.filterMap_cons, List.filterMap_nil, List.getElem?_toArray, List.getElem?_cons_zero, List.getElem?_cons_succ]
      go_wp2_with fail
      first
        | (go_ret2; exact ⟨rfl, HE2.out.1, HE2.out.2⟩)
        | (refine ⟨rfl, ?_⟩; go_wp2_with fail; go_ret2; exact ⟨rfl, HE2.out.1, HE2.out.2⟩)
set_option maxRecDepth 100000 in
set_option maxHeartbeats 4000000 in
theorem flay_full (hl : ∀ j, j < 64 → (O j).i ≠ 0) (x : Dsc) (w : World) (h : FdB w b O) : Calls Try.prog 26 #[.pointer (some ⟨b, 0, none⟩), .agg (dsC x)] w fun e w' => e = .returned (.tuple #[.int .i64 0, .int .i64 230]) ∧ Below w.heap.size w w' := by
  have hb1 : Below w.heap.size w (w.alloc (.cells (dsC x) 42)) := below_new1 _ _
  have hF := h.below hb1
  have hof : ∀ (k j : Nat), k = 64 → j < k → Calls Try.prog 27 #[.pointer (some ⟨b, 0, none⟩), .int .i64 (j : Int)] (w.alloc (.cells (dsC x) 42)) fun e w' => e = .returned (.pointer (some ⟨b, j * 3, none⟩)) ∧ w' = (w.alloc (.cells (dsC x) 42)) := fun k j hk hj => fof_yes b O j (by omega) (hl j (by omega)) _ hF
  obtain ⟨k, hk⟩ : ∃ k : Nat, k = 64 := ⟨_, rfl⟩
  have HOF : Hid (∀ j, j < k → Calls Try.prog 27 #[.pointer (some ⟨b, 0, none⟩), .int .i64 (j : Int)] (w.alloc (.cells (dsC x) 42)) fun e w' => e = .returned (.pointer (some ⟨b, j * 3, none⟩)) ∧ w' = (w.alloc (.cells (dsC x) 42))) := fun j hj => hof k j hk hj
  have HK : Hid (k = 64) := hk
  clear hof hk
  have HE : Hid (Below w.heap.size w (w.alloc (.cells (dsC x) 42))) := hb1
  clear hb1 hF h hl
  go_enter Try.func26, Try.ntmps26
  go_wp2_with fail
  generalize (w.alloc (.cells (dsC x) 42)) = w1 at *
  go_loopw [9] (fun v wr => Hid (∃ i : Nat, i ≤ 64 ∧ v = .int .i64 (i : Int) ∧ wr = w1)) (fun v _ => 64 - (intOf v).toNat)
  case atStart => exact ⟨0, Nat.zero_le _, rfl, rfl⟩
  case round =>
    obtain ⟨i, hi, rfl, rfl⟩ := Hid.out hrel
    clear hrel
    by_cases hik : i < 64
    · have i1 : (i : Int) < 64 := by omega
      have HI : Hid (i < 64) := hik
      have H1 := HOF.out i (by rw [HK.out]; exact hik)
      clear hik hi
      go_wp2_with fail
      refine H1.mono ?_
      rintro e w2 ⟨rfl, rfl⟩
      clear H1
      go_wp2_with fail
      go_roundw
      case rel => exact ⟨i + 1, HI.out, by first | rfl | go_num | simp, by first | rfl | trivial⟩
      case measure => have := HI.out; simp [intOf]; omega
    · have i1 : ¬ (i : Int) < 64 := by omega
      clear hik hi
      go_wp2_with fail
      go_ret2
      exact ⟨rfl, HE.out⟩
theorem flay_nil (x : Dsc) (w : World) : Calls Try.prog 26 #[.pointer none, .agg (dsC x)] w fun e w' => e = .returned (.tuple #[.int .i64 0, .int .i64 230]) ∧ Below w.heap.size w w' := by
  have hb1 : Below w.heap.size w (w.alloc (.cells (dsC x) 42)) := below_new1 _ _
  go_enter Try.func26, Try.ntmps26
  go_wp2_with fail
  go_ret2
  exact ⟨rfl, hb1⟩
end
end Go.Proofs.Ytldkmogennmldaa

namespace Go.Proofs.Ytldkmogennmldaa
open Go Go.RowKit
set_option linter.unusedSimpArgs false
set_option linter.unusedVariables false
theorem fds_zero (w : World) : (zeroValue 52).run Try.prog w = .ok (.agg (va 192 (fdF fun _ => ds0))) w := fz_of (by kernel_rfl) w
theorem fnew_any (w : World) : Calls Try.prog 12 #[] w fun e w' => ∃ b, e = .returned (.pointer (some ⟨b, 0, none⟩)) ∧ w.heap.size ≤ b ∧ FdB w' b (fun _ => ds0) ∧ Below w.heap.size w w' := by
  have hz := fds_zero
  have HE : Hid (FdB (w.alloc (.cells (va 192 (fdF fun _ => ds0)) 52)) w.heap.size (fun _ => ds0) ∧ Below w.heap.size w (w.alloc (.cells (va 192 (fdF fun _ => ds0)) 52))) := ⟨Blk.new _ _ _, below_new1 _ _⟩
  generalize va 192 (fdF fun _ => ds0) = Z at *
  go_enter Try.func12, Try.ntmps12
  go_wp2_with fail
  go_ret
  exact ⟨_, rfl, Nat.le_refl _, HE.out.1, HE.out.2⟩
section
variable {b : Nat} {O : Nat → Dsc}
theorem fclone_nil (w : World) : Calls Try.prog 13 #[.pointer none] w fun e w' => e = .returned (.pointer none) ∧ w' = w := by
  go_enter Try.func13, Try.ntmps13
  go_wp2_with fail
  go_ret
  exact ⟨rfl, rfl⟩
/-- what lay answers, as one thing: the least that is not open -/
structure LwD (O : Nat → Dsc) (k : Nat) : Prop where
  le : k ≤ 64
  all : ∀ j, j < k → (O j).i ≠ 0
  at_ : k < 64 → (O k).i = 0
def lyN (k : Nat) : Int := if k < 64 then (k : Int) else 0
def lyE (k : Nat) : Int := if k < 64 then 0 else 230
/-- behind a description was laid -/
def lyD (O : Nat → Dsc) (k : Nat) (x : Dsc) : Nat → Dsc := if k < 64 then upD O k x else O
theorem flay_any {k : Nat} (hk : LwD O k) (x : Dsc) (w : World) (h : FdB w b O) : Calls Try.prog 26 #[.pointer (some ⟨b, 0, none⟩), .agg (dsC x)] w fun e w' => e = .returned (.tuple #[.int .i64 (lyN k), .int .i64 (lyE k)]) ∧ FdB w' b (lyD O k x) ∧ OneT b w w' := by
  by_cases c : k < 64
  · unfold lyD lyN lyE
    rw [if_pos c, if_pos c, if_pos c]
    exact flay_ok k c (hk.at_ c) hk.all x w h
  · unfold lyD lyN lyE
    rw [if_neg c, if_neg c, if_neg c]
    have e : k = 64 := by have := hk.le; omega
    exact (flay_full (fun j hj => hk.all j (by omega)) x w h).mono fun e w' ⟨h1, h2⟩ => ⟨h1, h.below h2, OneT.of_below h2⟩
theorem fopen_bad1 (p : Value) (i g : Int) (hm : ¬ mayI g) (w : World) : Calls Try.prog 14 #[p, .int .i64 i, .int .i64 g] w fun e w' => e = .returned (.tuple #[.int .i64 0, .int .i64 232]) ∧ w' = w := by
  have HC := fcheck_any g w
  rw [if_neg hm] at HC
  clear hm
  go_enter Try.func14, Try.ntmps14
  go_wp2_with fail
  refine HC.mono ?_
  rintro e w1 ⟨rfl, rfl⟩
  go_wp2_with fail
  go_ret2
  exact ⟨rfl, rfl⟩
theorem fopen_bad2 (p : Value) (i g : Int) (hm : mayI g) (hi : ¬ (1 ≤ i ∧ i ≤ 4096)) (w : World) : Calls Try.prog 14 #[p, .int .i64 i, .int .i64 g] w fun e w' => e = .returned (.tuple #[.int .i64 0, .int .i64 1]) ∧ w' = w := by
  have HC := fcheck_any g w
  rw [if_pos hm] at HC
  by_cases i1 : i < 1
  · clear hm hi
    go_enter Try.func14, Try.ntmps14
    go_wp2_with fail
    refine HC.mono ?_
    rintro e w1 ⟨rfl, rfl⟩
    go_wp2_with fail
    go_ret2
    exact ⟨rfl, rfl⟩
  · have i2 : 4096 < i := by omega
    clear hm hi
    go_enter Try.func14, Try.ntmps14
    go_wp2_with fail
    refine HC.mono ?_
    rintro e w1 ⟨rfl, rfl⟩
    go_wp2_with fail
    go_ret2
    exact ⟨rfl, rfl⟩
set_option maxHeartbeats 4000000 in
theorem fopen_gen (p : Value) (i g n er : Int) (R : World → Prop) (hm : mayI g) (hi : 1 ≤ i ∧ i ≤ 4096) (w : World) (HL : Calls Try.prog 26 #[p, .agg (dsC ⟨i, g, 0⟩)] w fun e w' => e = .returned (.tuple #[.int .i64 n, .int .i64 er]) ∧ R w') : Calls Try.prog 14 #[p, .int .i64 i, .int .i64 g] w fun e w' => e = .returned (.tuple #[.int .i64 n, .int .i64 er]) ∧ R w' := by
  have HC := fcheck_any g w
  rw [if_pos hm] at HC
  obtain ⟨hi1, hi2⟩ := hi
  have i1 : ¬ i < 1 := by omega
  have i2 : ¬ 4096 < i := by omega
  have HL2 : Calls Try.prog 26 #[p, .agg #[.int .i64 i, .int .i64 g, .int .i64 0]] w fun e w' => e = .returned (.tuple #[.int .i64 n, .int .i64 er]) ∧ R w' := HL
  clear hm HL
  go_enter Try.func14, Try.ntmps14
  go_wp2_with fail
  refine HC.mono ?_
  rintro e w1 ⟨rfl, rfl⟩
  go_wp2_with fail
  refine HL2.mono ?_
  rintro e w2 ⟨rfl, hR⟩
  go_wp2_with fail
  go_ret2
  exact ⟨rfl, hR⟩
theorem fopen_ok {k : Nat} (hk : LwD O k) (i g : Int) (hm : mayI g) (hi : 1 ≤ i ∧ i ≤ 4096) (w : World) (h : FdB w b O) : Calls Try.prog 14 #[.pointer (some ⟨b, 0, none⟩), .int .i64 i, .int .i64 g] w fun e w' => e = .returned (.tuple #[.int .i64 (lyN k), .int .i64 (lyE k)]) ∧ FdB w' b (lyD O k ⟨i, g, 0⟩) ∧ OneT b w w' :=
  fopen_gen _ i g (lyN k) (lyE k) (fun w' => FdB w' b (lyD O k ⟨i, g, 0⟩) ∧ OneT b w w') hm hi w (flay_any hk _ w h)
theorem fopen_nil (i g : Int) (hm : mayI g) (hi : 1 ≤ i ∧ i ≤ 4096) (w : World) : Calls Try.prog 14 #[.pointer none, .int .i64 i, .int .i64 g] w fun e w' => e = .returned (.tuple #[.int .i64 0, .int .i64 230]) ∧ Below w.heap.size w w' :=
  fopen_gen _ i g 0 230 (fun w' => Below w.heap.size w w') hm hi w (flay_nil _ w)
set_option maxRecDepth 100000 in
set_option maxHeartbeats 4000000 in
theorem fdup_bad (p : Value) (n er : Int) (her : er ≠ 0) (x : Dsc) (w : World) (HG : Calls Try.prog 20 #[p, .int .i64 n] w fun e w' => e = .returned (.tuple #[.agg (dsC x), .int .i64 er]) ∧ Below w.heap.size w w') : Calls Try.prog 19 #[p, .int .i64 n] w fun e w' => e = .returned (.tuple #[.int .i64 0, .int .i64 er]) ∧ Below w.heap.size w w' := by
  have hz := ds_zero
  have b0 : (er != 0) = true := bne_iff_ne.2 her
  have hsx : (dsC x).size = 3 := rfl
  clear her
  go_enter Try.func19, Try.ntmps19
  go_wp2_with fail
  refine HG.mono ?_
  rintro e w1 ⟨rfl, hb⟩
  have u1 : Blk (w1.alloc (.cells (dsC ds0) 42)) w1.heap.size 42 (dsC ds0) := Blk.new _ _ _
  have HE : Hid (Below w.heap.size w ((w1.alloc (.cells (dsC ds0) 42)).setRow w1.heap.size (dsC x))) := below_setRow (hb.alloc hb.size _) hb.size _
  clear hb HG
  go_wp2_with (first
    | (refine wpList_store_row (by rfl) 42 _ _ (by rfl) (w1.heap.size) (dsC x) (by rfl) (by rfl) 42 (dsC ds0) (by exact u1) (ds_size.trans (by rfl)) (by rfl) (ds_all _) ?_; simp only [Act.put, List.setIfInBounds_toArray, List.set_cons_zero, List.set_cons_succ])
    | fail)
  go_ret2
  exact ⟨rfl, HE.out⟩
end
end Go.Proofs.Ytldkmogennmldaa

namespace Go.Proofs.Ytldkmogennmldaa
open Go Go.RowKit
set_option linter.unusedSimpArgs false
set_option linter.unusedVariables false
theorem fd_infoInt : (Try.prog.info? 3).map (fun i => (i.zero, i.size, i.bytes)) = some (some (.int .i64 0), 1, 8) := by kernel_rfl
theorem fd_info {t : TypeId} {z : Value} {s b : Nat} (h : (Try.prog.info? t).map (fun i => (i.zero, i.size, i.bytes)) = some (some z, s, b)) : ∃ i, Try.prog.info? t = some i ∧ i.zero = some z ∧ i.size = s ∧ i.bytes = b := by
  cases hq : Try.prog.info? t with
  | none => simp [hq] at h
  | some i =>
    simp [hq] at h
    exact ⟨i, rfl, h⟩
/-- numbers as values -/
def nvL (l : List Nat) : List Value := l.map fun (j : Nat) => Value.int .i64 ((j : Nat) : Int)
/-- the first of them that are so -/
def soL (P : Nat → Bool) : Nat → List Nat
  | 0 => []
  | n + 1 => soL P n ++ (if P n = true then [n] else [])
theorem soL_le (P : Nat → Bool) : ∀ n, (soL P n).length ≤ n
  | 0 => Nat.le_refl _
  | n + 1 => by
    have := soL_le P n
    rw [soL, List.length_append]
    split <;> simp <;> omega
theorem soL_mem (P : Nat → Bool) : ∀ n k, k ∈ soL P n → k < n ∧ P k = true
  | 0, k, h => by simp [soL] at h
  | n + 1, k, h => by
    rw [soL, List.mem_append] at h
    rcases h with h | h
    · have := soL_mem P n k h
      exact ⟨by omega, this.2⟩
    · split at h
      · rename_i q
        simp at h
        subst h
        exact ⟨by omega, q⟩
      · simp at h
theorem soL_congr {P R : Nat → Bool} : ∀ n, (∀ j, j < n → P j = R j) → soL P n = soL R n
  | 0, _ => rfl
  | n + 1, h => by rw [soL, soL, soL_congr n fun j hj => h j (by omega), h n (by omega)]
set_option maxRecDepth 100000 in
set_option maxHeartbeats 8000000 in
theorem fall_gen (p : Value) (q : Nat → Option Addr) (w : World) (HO0 : ∀ V, Below w.heap.size w V → ∀ j : Nat, j < 64 → Calls Try.prog 27 #[p, .int .i64 (j : Int)] V fun e w' => e = .returned (.pointer (q j)) ∧ w' = V) :
    Calls Try.prog 24 #[p] w fun e w' => ∃ a c, e = .returned (.slice a (soL (fun j => (q j).isSome) 64).length c) ∧ w'.ownsRow w.heap.size 3 1 (.slice a (soL (fun j => (q j).isSome) 64).length c) (soL (fun j => (q j).isSome) 64).length (nvL (soL (fun j => (q j).isSome) 64)) ∧ Below w.heap.size w w' := by
  obtain ⟨i0, hi, hz0, hz1, hz2⟩ := fd_info fd_infoInt
  obtain ⟨P, hP⟩ : ∃ P : Nat → Bool, P = fun j => (q j).isSome := ⟨_, rfl⟩
  rw [← hP]
  have HPQ : Hid (∀ j, P j = (q j).isSome) := fun j => by rw [hP]
  have HO : Hid (∀ V, Below w.heap.size w V → ∀ j K : Nat, K = 64 → j < K → Calls Try.prog 27 #[p, .int .i64 (j : Int)] V fun e w' => e = .returned (.pointer (q j)) ∧ w' = V) := fun V hV j K hK hj => HO0 V hV j (by omega)
  clear HO0 hP
  go_enter Try.func24, Try.ntmps24
  go_wp2_with fail
  go_loopw [3, 5] (fun v t wr => Hid (∃ (j m cap : Nat) (a : Option Addr), j ≤ 64 ∧ t = .int .i64 (j : Int) ∧ (soL P j).length = m ∧ v = .slice a m cap ∧ wr.ownsRow w.heap.size 3 1 v m (nvL (soL P j)) ∧ Below w.heap.size w wr)) (fun _ t _ => 64 - (intOf t).toNat)
  case atStart => exact ⟨0, 0, 0, none, by omega, rfl, rfl, rfl, ⟨by simp [nvL, soL], .inl ⟨rfl, rfl⟩⟩, Below.refl _ _⟩
  case round =>
    obtain ⟨j, m, cap, a, hj, rfl, hm, rfl, hown, hb⟩ := Hid.out hrel
    clear hrel
    by_cases hj6 : j < 64
    · have j1 : (j : Int) < 64 := by omega
      have H1 := HO.out wr hb j 64 rfl hj6
      have HJ : Hid (j < 64 ∧ (soL P j).length = m ∧ m ≤ 64) := ⟨hj6, hm, by have := soL_le P j; omega⟩
      have HW : Hid (wr.ownsRow w.heap.size 3 1 (.slice a m cap) m (nvL (soL P j)) ∧ Below w.heap.size w wr) := ⟨hown, hb⟩
      have hso : soL P (j + 1) = soL P j ++ (if P j = true then [j] else []) := rfl
      have hpq := HPQ.out j
      clear hown hb hj hj6 hm
      cases hq : q j with
      | none =>
        rw [hq] at H1 hpq
        rw [hpq] at hso
        have HS : Hid (soL P (j + 1) = soL P j) := by show soL P (j + 1) = soL P j; rw [hso]; simp
        clear hq hpq hso
        go_wp2_with fail
        refine H1.mono ?_
        rintro e w2 ⟨rfl, rfl⟩
        clear H1
        go_wp2_with fail
        go_roundw
        case rel => exact ⟨j + 1, m, cap, a, HJ.out.1, by first | rfl | go_num | simp, by rw [HS.out]; exact HJ.out.2.1, rfl, by rw [HS.out]; exact HW.out.1, HW.out.2⟩
        case measure => have := HJ.out; simp [intOf]; omega
      | some ad =>
        rw [hq] at H1 hpq
        rw [hpq] at hso
        have HS : Hid (soL P (j + 1) = soL P j ++ [j]) := by show soL P (j + 1) = _; rw [hso]; simp
        have hv := HW.out.1.lt
        have hmb := HJ.out.2.2
        have hsz := HW.out.2.size
        clear hq hpq hso
        go_wp2_with fail
        refine H1.mono ?_
        rintro e w2 ⟨rfl, rfl⟩
        clear H1
        go_wp2_with (first
          | (at_builtin; refine wpList_append_own _ rfl _ _ 48 rfl (w.heap.size) 3 i0 (.int .i64 0) 1 8 Try.underlying48 hi hz0 hz1 hz2 rfl (by decide) _ _ _ rfl (HW.out.1.alloc _) ⟨w2.heap.size, 0, none⟩ 1 1 [.int .i64 (j : Int)] rfl rfl (cell_one_new _ _ _) (fun x hx => by simp at hx; subst hx; rfl) (by unfold maxLen; omega) (by omega) (by simp; omega) ?_)
          | go_in)
        intro v' w7 hown' hgrow _
        have hb7 : Below w.heap.size w w7 := (HW.out.2.alloc (by omega) _).grown hgrow (by simp; omega) (fun k hk => (hv k hk).1)
        have hown7 : w7.ownsRow w.heap.size 3 1 v' (m + 1) (nvL (soL P (j + 1))) := by
          rw [HS.out]
          simpa [nvL] using hown'
        obtain ⟨g3, cap3, hv3⟩ := kown_slice hown7
        subst hv3
        clear hv hgrow hown'
        go_wp2_with fail
        go_roundw
        case rel => exact ⟨j + 1, m + 1, cap3, g3, HJ.out.1, by first | rfl | go_num | simp, by rw [HS.out, List.length_append, HJ.out.2.1]; rfl, rfl, hown7, hb7⟩
        case measure => have := HJ.out; simp [intOf]; omega
    · have e : j = 64 := by omega
      subst e
      have j1 : ¬ ((64 : Int) < 64) := by decide
      have HX : Hid ((soL P 64).length = m ∧ wr.ownsRow w.heap.size 3 1 (.slice a m cap) m (nvL (soL P 64)) ∧ Below w.heap.size w wr) := ⟨hm, hown, hb⟩
      clear hown hb hj hj6 hm
      go_wp2_with fail
      go_ret
      exact ⟨a, cap, by rw [HX.out.1]; rfl, by rw [HX.out.1]; exact HX.out.2.1, HX.out.2.2⟩
/-- which of them are open -/
def opP (O : Nat → Dsc) (j : Nat) : Bool := (O j).i != 0
section
variable {b : Nat} {O : Nat → Dsc}
theorem fof_opP (w V : World) (h : FdB w b O) (hV : Below w.heap.size w V) (j : Nat) (hj : j < 64) : Calls Try.prog 27 #[.pointer (some ⟨b, 0, none⟩), .int .i64 (j : Int)] V fun e w' => e = .returned (.pointer (if opP O j = true then some ⟨b, j * 3, none⟩ else none)) ∧ w' = V := by
  by_cases c : (O j).i = 0
  · rw [if_neg (by simp [opP, c])]
    exact fof_nat b O j hj c V (h.below hV)
  · rw [if_pos (by simp [opP, c])]
    exact fof_yes b O j hj c V (h.below hV)
theorem fall_any (w : World) (h : FdB w b O) : Calls Try.prog 24 #[.pointer (some ⟨b, 0, none⟩)] w fun e w' => ∃ a c, e = .returned (.slice a (soL (opP O) 64).length c) ∧ w'.ownsRow w.heap.size 3 1 (.slice a (soL (opP O) 64).length c) (soL (opP O) 64).length (nvL (soL (opP O) 64)) ∧ Below w.heap.size w w' := by
  have := fall_gen (.pointer (some ⟨b, 0, none⟩)) (fun j => if opP O j = true then some ⟨b, j * 3, none⟩ else none) w (fun V hV j hj => fof_opP w V h hV j hj)
  have e : soL (fun j => (if opP O j = true then some (⟨b, j * 3, none⟩ : Addr) else none).isSome) 64 = soL (opP O) 64 := soL_congr 64 fun j _ => by
    cases opP O j <;> rfl
  rw [e] at this
  exact this
theorem fall_nil (w : World) : Calls Try.prog 24 #[.pointer none] w fun e w' => ∃ a c, e = .returned (.slice a 0 c) ∧ Below w.heap.size w w' := by
  have e : soL (fun j => ((fun _ => none : Nat → Option Addr) j).isSome) 64 = [] := by
    cases h : soL (fun j => ((fun _ => none : Nat → Option Addr) j).isSome) 64 with
    | nil => rfl
    | cons k l =>
      have := (soL_mem _ 64 k (by rw [h]; exact List.mem_cons_self)).2
      simp at this
  have := fall_gen (.pointer none) (fun _ => none) w (fun V hV j hj => fof_nil _ V)
  rw [e] at this
  exact this.mono fun e w' ⟨a, c, h1, _, h3⟩ => ⟨a, c, h1, h3⟩
theorem flen_gen (p : Value) (n : Nat) (hn : n ≤ 64) (w : World) (HA : Calls Try.prog 24 #[p] w fun e w' => ∃ a c, e = .returned (.slice a n c) ∧ Below w.heap.size w w') : Calls Try.prog 18 #[p] w fun e w' => e = .returned (.int .i64 (n : Int)) ∧ Below w.heap.size w w' := by
  have h1 : (n : Int) ≤ 64 := by omega
  go_enter Try.func18, Try.ntmps18
  go_wp2_with fail
  refine HA.mono ?_
  rintro e w1 ⟨a, c, rfl, hb⟩
  have HB : Hid (Below w.heap.size w w1) := hb
  clear hb HA
  go_wp2_with fail
  go_ret
  exact ⟨rfl, HB.out⟩
theorem flen_any (w : World) (h : FdB w b O) : Calls Try.prog 18 #[.pointer (some ⟨b, 0, none⟩)] w fun e w' => e = .returned (.int .i64 ((soL (opP O) 64).length : Int)) ∧ Below w.heap.size w w' :=
  flen_gen _ _ (soL_le _ _) w ((fall_any w h).mono fun e w' ⟨a, c, h1, _, h3⟩ => ⟨a, c, h1, h3⟩)
theorem flen_nil (w : World) : Calls Try.prog 18 #[.pointer none] w fun e w' => e = .returned (.int .i64 ((0 : Nat) : Int)) ∧ Below w.heap.size w w' :=
  flen_gen _ 0 (by decide) w (fall_nil w)
theorem fuses_nil (i : Int) (w : World) : Calls Try.prog 23 #[.pointer none, .int .i64 i] w fun e w' => e = .returned (.int .i64 0) ∧ Below w.heap.size w w' := by
  have HA := fall_nil w
  go_enter Try.func23, Try.ntmps23
  go_wp2_with fail
  refine HA.mono ?_
  rintro e w1 ⟨a, c, rfl, hb⟩
  have HB : Hid (Below w.heap.size w w1) := hb
  clear hb HA
  go_wp2_with fail
  go_loopw [5, 11] (fun u v wr => u = .int .i64 0 ∧ v = .int .i64 0 ∧ wr = w1) (fun _ _ _ => 0)
  case atStart => exact ⟨rfl, rfl, rfl⟩
  case round =>
    obtain ⟨rfl, rfl, rfl⟩ := hrel
    go_wp2_with fail
    go_ret
    exact ⟨rfl, HB.out⟩
end
end Go.Proofs.Ytldkmogennmldaa

namespace Go.Proofs.Ytldkmogennmldaa
open Go Go.RowKit
set_option linter.unusedSimpArgs false
set_option linter.unusedVariables false
theorem lwd_new : LwD (fun _ => ds0) 0 := ⟨by decide, fun j hj => absurd hj (Nat.not_lt_zero _), fun _ => rfl⟩
theorem may_lits : mayI 3 ∧ ¬ mayI 0 ∧ mayI 1 := by decide
set_option maxRecDepth 100000 in
set_option maxHeartbeats 8000000 in
theorem awake23_any (w : World) : Calls Try.prog 8 #[] w fun e w' => e = .returned (.bool true) ∧ Below w.heap.size w w' := by
  have HN := fnew_any w
  have hz := ds_zero
  have HC3 : Hid (∀ V : World, Calls Try.prog 9 #[.int .i64 3] V fun e w' => e = .returned (.int .i64 0) ∧ w' = V) := fun V => by
    have := fcheck_any 3 V
    rwa [if_pos may_lits.1] at this
  have HC0 : Hid (∀ V : World, Calls Try.prog 9 #[.int .i64 0] V fun e w' => e = .returned (.int .i64 232) ∧ w' = V) := fun V => by
    have := fcheck_any 0 V
    rwa [if_neg may_lits.2.1] at this
  go_enter Try.func8, Try.ntmps8
  go_wp2_with fail
  refine HN.mono ?_
  rintro e w1 ⟨b, rfl, hb0, hF, hb1⟩
  have HO := fopen_ok lwd_new 5 1 may_lits.2.2 (by decide) w1 hF
  have HB : Hid (w.heap.size ≤ b ∧ Below w.heap.size w w1) := ⟨hb0, hb1⟩
  rw [show lyN 0 = 0 from rfl, show lyE 0 = 0 from rfl] at HO
  clear hb0 hb1 hF HN
  go_wp2_with fail
  refine HO.mono ?_
  rintro e w2 ⟨rfl, hF2, ht2⟩
  have HF2 : Hid (FdB w2 b (lyD (fun _ => ds0) 0 ⟨5, 1, 0⟩) ∧ Below w.heap.size w w2) := ⟨hF2, HB.out.2.trans (ht2.below HB.out.2.size HB.out.1)⟩
  have HG : Calls Try.prog 20 #[.pointer (some ⟨b, 0, none⟩), .int .i64 0] w2 fun e w' => e = .returned (.tuple #[.agg (dsC ⟨5, 1, 0⟩), .int .i64 0]) ∧ Below w2.heap.size w2 w' := by
    have := fget_any 0 w2 hF2
    have ho : opn (lyD (fun _ => ds0) 0 ⟨5, 1, 0⟩) 0 := ⟨by decide, by decide, by decide⟩
    rw [(gt_yes ho).1, (gt_yes ho).2] at this
    exact this
  clear hF2 ht2 HO HB
  go_wp2_with fail
  refine HG.mono ?_
  rintro e w3 ⟨rfl, hb3⟩
  have u1 : Blk (w3.alloc (.cells (dsC ds0) 42)) w3.heap.size 42 (dsC ds0) := Blk.new _ _ _
  have u2 := u1.set (dsC ⟨5, 1, 0⟩)
  have hn3 : Below w3.heap.size w3 ((w3.alloc (.cells (dsC ds0) 42)).setRow w3.heap.size (dsC ⟨5, 1, 0⟩)) := below_setRow (below_new1 _ _) (Nat.le_refl _) _
  have c0 : ((w3.alloc (.cells (dsC ds0) 42)).setRow w3.heap.size (dsC ⟨5, 1, 0⟩)).cell? ⟨w3.heap.size, 0, none⟩ = some (.int .i64 5) := (u2.cell 0).trans rfl
  have HF4 : Hid (FdB ((w3.alloc (.cells (dsC ds0) 42)).setRow w3.heap.size (dsC ⟨5, 1, 0⟩)) b (lyD (fun _ => ds0) 0 ⟨5, 1, 0⟩) ∧ Below w.heap.size w ((w3.alloc (.cells (dsC ds0) 42)).setRow w3.heap.size (dsC ⟨5, 1, 0⟩))) := by
    have h1 := hb3.trans (hn3.mono hb3.size)
    exact ⟨HF2.out.1.below h1, HF2.out.2.trans (h1.mono HF2.out.2.size)⟩
  have hsx : (dsC ⟨5, 1, 0⟩).size = 3 := rfl
  have HLN := flen_any _ HF4.out.1
  have hln : (soL (opP (lyD (fun _ => ds0) 0 ⟨5, 1, 0⟩)) 64).length = 1 := by decide
  rw [hln] at HLN
  clear hb3 hn3 HG HF2 u2 hln
  generalize hD : dsC (⟨5, 1, 0⟩ : Dsc) = D5 at *
  go_wp2_with (first
    | (refine wpList_store_row (by rfl) 42 _ _ (by rfl) (w3.heap.size) D5 (by rfl) (by rfl) 42 (dsC ds0) (by exact u1) (ds_size.trans (by rw [hsx])) (by rw [hsx]; rfl) (by rw [← hD]; exact ds_all _) ?_; simp only [Act.put, List.setIfInBounds_toArray, List.set_cons_zero, List.set_cons_succ])
    | (go_at_call_of 9 (Value.int .i64 3); refine (HC3.out _).mono ?_; rintro e wc1 ⟨rfl, rfl⟩)
    | (go_at_call_of 9 (Value.int .i64 0); refine (HC0.out _).mono ?_; rintro e wc2 ⟨rfl, rfl⟩)
    | (go_at_call 18; refine HLN.mono ?_; rintro e wc3 ⟨rfl, hb9⟩)
    | fail)
  go_ret
  exact ⟨by first | rfl | simp, HF4.out.2.trans (hb9.mono HF4.out.2.size)⟩
end Go.Proofs.Ytldkmogennmldaa

namespace Go.Proofs.Ytldkmogennmldaa
open Go Go.RowKit
set_option linter.unusedSimpArgs false
set_option linter.unusedVariables false
theorem fseek_gen (p : Value) (n by_ wh z : Int) (w : World) (H1 : Calls Try.prog 27 #[p, .int .i64 n] w fun e w' => e = .returned (.pointer none) ∧ w' = w) : Calls Try.prog 21 #[p, .int .i64 n, .int .i64 by_, .int .i64 wh, .int .i64 z] w fun e w' => e = .returned (.tuple #[.int .i64 0, .int .i64 231]) ∧ w' = w := by
  go_enter Try.func21, Try.ntmps21
  go_wp2_with fail
  refine H1.mono ?_
  rintro e w2 ⟨rfl, rfl⟩
  go_wp2_with fail
  go_ret2
  exact ⟨rfl, rfl⟩
section
variable {b : Nat} {O : Nat → Dsc} {n : Int}
end
end Go.Proofs.Ytldkmogennmldaa

namespace Go.Proofs.Ytldkmogennmldaa
open Go Go.RowKit
set_option linter.unusedSimpArgs false
set_option linter.unusedVariables false
set_option maxRecDepth 100000 in
set_option maxHeartbeats 16000000 in
theorem fdNilLaw (a b : Int) (w : World) : Calls Try.prog 6 #[.int .i64 a, .int .i64 b] w fun e w' => e = .returned (.bool true) ∧ Below w.heap.size w w' := by
  have hz := ds_zero
  have HA : Hid (∀ V : World, Calls Try.prog 8 #[] V fun e w' => e = .returned (.bool true) ∧ Below V.heap.size V w') := awake23_any
  have H1 : Calls Try.prog 14 #[.pointer none, .int .i64 1, .int .i64 1] w fun e w' => e = .returned (.tuple #[.int .i64 0, .int .i64 230]) ∧ Below w.heap.size w w' := fopen_nil 1 1 may_lits.2.2 (by decide) w
  have H2 : Hid (∀ V : World, Calls Try.prog 14 #[.pointer none, .int .i64 1, .int .i64 0] V fun e w' => e = .returned (.tuple #[.int .i64 0, .int .i64 232]) ∧ w' = V) := fun V => fopen_bad1 _ 1 0 may_lits.2.1 V
  have H3 : Hid (∀ V : World, Calls Try.prog 14 #[.pointer none, .int .i64 0, .int .i64 1] V fun e w' => e = .returned (.tuple #[.int .i64 0, .int .i64 1]) ∧ w' = V) := fun V => fopen_bad2 _ 0 1 may_lits.2.2 (by decide) V
  have H4 : Hid (∀ V : World, Calls Try.prog 20 #[.pointer none, .int .i64 a] V fun e w' => e = .returned (.tuple #[.agg (dsC ds0), .int .i64 231]) ∧ Below V.heap.size V w') := fget_nil a
  have H5 : Hid (∀ V : World, Calls Try.prog 19 #[.pointer none, .int .i64 a] V fun e w' => e = .returned (.tuple #[.int .i64 0, .int .i64 231]) ∧ Below V.heap.size V w') := fun V => fdup_bad _ a 231 (by decide) ds0 V (fget_nil a V)
  have H6 : Hid (∀ V : World, Calls Try.prog 21 #[.pointer none, .int .i64 a, .int .i64 b, .int .i64 0, .int .i64 0] V fun e w' => e = .returned (.tuple #[.int .i64 0, .int .i64 231]) ∧ w' = V) := fun V => fseek_gen _ a b 0 0 V (fof_nil a V)
  have H7 : Hid (∀ V : World, Calls Try.prog 15 #[.pointer none, .int .i64 a] V fun e w' => e = .returned (.int .i64 231) ∧ w' = V) := fun V => fclose_gen _ a V (fof_nil a V)
  have H8 : Hid (∀ V : World, Calls Try.prog 22 #[.pointer none, .int .i64 a, .int .i64 b] V fun e w' => e = .returned (.int .i64 231) ∧ w' = V) := fun V => fmove_gen _ a b V (fof_nil a V)
  have H9 : Hid (∀ V : World, Calls Try.prog 23 #[.pointer none, .int .i64 a] V fun e w' => e = .returned (.int .i64 0) ∧ Below V.heap.size V w') := fuses_nil a
  have H10 : Hid (∀ V : World, Calls Try.prog 18 #[.pointer none] V fun e w' => e = .returned (.int .i64 0) ∧ Below V.heap.size V w') := flen_nil
  have H11 : Hid (∀ V : World, Calls Try.prog 24 #[.pointer none] V fun e w' => ∃ a c, e = .returned (.slice a 0 c) ∧ Below V.heap.size V w') := fall_nil
  have H12 : Hid (∀ V : World, Calls Try.prog 13 #[.pointer none] V fun e w' => e = .returned (.pointer none) ∧ w' = V) := fclone_nil
  go_enter Try.func6, Try.ntmps6
  go_wp2_with fail
  refine H1.mono ?_
  rintro e w1 ⟨rfl, hb1⟩
  have HB1 : Hid (Below w.heap.size w w1) := hb1
  clear hb1 H1
  go_wp2_with fail
  refine (H2.out _).mono ?_
  rintro e w2 ⟨rfl, rfl⟩
  go_wp2_with fail
  refine (H3.out _).mono ?_
  rintro e w3 ⟨rfl, rfl⟩
  go_wp2_with fail
  refine (H4.out _).mono ?_
  rintro e w4 ⟨rfl, hb4⟩
  have u1 : Blk (w4.alloc (.cells (dsC ds0) 42)) w4.heap.size 42 (dsC ds0) := Blk.new _ _ _
  have HB4 : Hid (Below w.heap.size w ((w4.alloc (.cells (dsC ds0) 42)).setRow w4.heap.size (dsC ds0))) := by
    have h1 := HB1.out.trans (hb4.mono HB1.out.size)
    exact below_setRow (h1.alloc h1.size _) h1.size _
  have hsx : (dsC ds0).size = 3 := rfl
  clear hb4 HB1
  generalize hD : dsC ds0 = D0 at *
  go_wp2_with (first
    | (refine wpList_store_row (by rfl) 42 _ _ (by rfl) (w4.heap.size) D0 (by rfl) (by rfl) 42 D0 (by exact u1) (ds_size.trans (by rw [hsx])) (by rfl) (by rw [← hD]; exact ds_all _) ?_; simp only [Act.put, List.setIfInBounds_toArray, List.set_cons_zero, List.set_cons_succ])
    | fail)
  generalize ((w4.alloc (.cells D0 42)).setRow w4.heap.size D0) = w5 at *
  clear u1
  refine (H5.out _).mono ?_
  rintro e w6 ⟨rfl, hb6⟩
  have HB6 : Hid (Below w.heap.size w w6) := HB4.out.trans (hb6.mono HB4.out.size)
  clear hb6 HB4
  go_wp2_with fail
  refine (H6.out _).mono ?_
  rintro e w7 ⟨rfl, rfl⟩
  go_wp2_with fail
  refine (HA.out _).mono ?_
  rintro e w8 ⟨rfl, hb8⟩
  have HB8 : Hid (Below w.heap.size w w8) := HB6.out.trans (hb8.mono HB6.out.size)
  clear hb8 HB6
  go_wp2_with fail
  refine (H7.out _).mono ?_
  rintro e w9 ⟨rfl, rfl⟩
  go_wp2_with fail
  refine (H8.out _).mono ?_
  rintro e w9 ⟨rfl, rfl⟩
  go_wp2_with fail
  refine (H9.out _).mono ?_
  rintro e w10 ⟨rfl, hb10⟩
  have HB10 : Hid (Below w.heap.size w w10) := HB8.out.trans (hb10.mono HB8.out.size)
  clear hb10 HB8
  go_wp2_with fail
  refine (H10.out _).mono ?_
  rintro e w11 ⟨rfl, hb11⟩
  have HB11 : Hid (Below w.heap.size w w11) := HB10.out.trans (hb11.mono HB10.out.size)
  clear hb11 HB10
  go_wp2_with fail
  refine (H11.out _).mono ?_
  rintro e w12 ⟨a12, c12, rfl, hb12⟩
  have HB12 : Hid (Below w.heap.size w w12) := HB11.out.trans (hb12.mono HB11.out.size)
  clear hb12 HB11
  go_wp2_with fail
  refine (H12.out _).mono ?_
  rintro e w13 ⟨rfl, rfl⟩
  go_wp2_with fail
  go_ret
  exact ⟨rfl, HB12.out⟩
end Go.Proofs.Ytldkmogennmldaa
