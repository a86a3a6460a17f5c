/- Trees: Diff against a tree of nothing: its small functions. -/
import Derived.Test.YtjhabngibbmpbaaGreatHTrRAll
import Derived.Handy
import Derived.BigQuiet
import Derived.Deep.QuietTactic

namespace Go.Proofs.YtjhabngibbmpbaaGreat
open Go Go.RowKit
set_option linter.unusedSimpArgs false
set_option linter.unusedVariables false
theorem infoPo : (Tryz.prog.info? 75).map (fun i => (i.zero, i.size, i.bytes)) = some (some (.agg (poC 0 0 rf0)), 35, 56) := by kernel_rfl
/-- the positions told so far -/
def PB (V : World) (bx Bm : Nat) (v : Value) (s : List Ps) : Prop := GS V bx 64 Bm 75 35 v s.length (posL s)
def QA (bx Bm : Nat) (s : List Ps) (v : Value) (V : World) : Prop := PB V bx Bm v s ∧ Bm ≤ V.heap.size
theorem PB.own {V : World} {bx Bm : Nat} {s : List Ps} {qa : Option Addr} {n ka : Nat} (h : PB V bx Bm (.slice qa n ka) s) (hn : s.length = n) : V.ownsRow Bm 75 35 (.slice qa n ka) n (posL s) := by
  have := h.2.1
  rw [hn] at this
  exact this
end Go.Proofs.YtjhabngibbmpbaaGreat

namespace Go.Proofs.YtjhabngibbmpbaaGreat
open Go Go.RowKit
set_option linter.unusedSimpArgs false
set_option linter.unusedVariables false
section
variable {F : Nat → Nat} {N : Nat}
set_option maxRecDepth 100000 in
set_option maxHeartbeats 8000000 in
theorem rall9_any (hF : ∀ a, F a < 256) (hN : N ≤ 8192) (a0 : Option Addr) (cap : Nat) (n : Nat) (hn : n ≤ 6) (R : Rf) (hR : R.1 < 4294967296) (w : World) (H : IsBlks w a0 N fun i => blkAt F i) : Calls Tryz.prog 27 #[.slice a0 N cap, .agg (trC (n : Int) R)] w (BnP w (bnR F N n 0 R).1 (bnR F N n 0 R).2) := by
  have t1 : Blk (w.alloc (.cells (trC (n : Int) R) 33)) w.heap.size 33 (trC (n : Int) R) := Blk.new _ _ _
  have hb1 : Below w.heap.size w (w.alloc (.cells (trC (n : Int) R) 33)) := below_new1 _ _
  have HR1 : Hid ((w.alloc (.cells (trC (n : Int) R) 33)).rangeAt w.heap.size 1 ((List.range 33).map (rfF R.1 R.2))) := tr_range t1
  have z1 : (w.alloc (.cells (trC (n : Int) R) 33)).cell? ⟨w.heap.size, 0, none⟩ = some (.int .i64 (n : Int)) := (t1.cell 0).trans (va_at (trF (n : Int) R) (by decide))
  have HB : Hid (Tryz.prog.built 77 [(0, .int .i64 (n : Int)), (1, .int .i64 0), (2, .agg (rfC R))] = some (poC (n : Int) 0 R)) := rbuilt_po3 _ _ _
  have HBn : Hid (Calls Tryz.prog 59 #[.slice a0 N cap, .agg (poC (n : Int) 0 R)] (w.alloc (.cells (trC (n : Int) R) 33)) (BnP (w.alloc (.cells (trC (n : Int) R) 33)) (bnR F N n 0 R).1 (bnR F N n 0 R).2)) := rben_any hF hN a0 cap n hn 0 R _ (Int.le_refl _) (by
    have := pow4_le n hn
    simp only [Int.zero_add, Int.one_mul]
    omega) hR (H.below hb1)
  have HB1 : Hid (Below w.heap.size w (w.alloc (.cells (trC (n : Int) R) 33))) := hb1
  clear hb1 H hR hn hF hN
  generalize bnR F N n 0 R = bv at *
  obtain ⟨L, er⟩ := bv
  go_enter Tryz.func27, Tryz.ntmps27
  go_wp2_with (first
    | (refine wpList_load_blk (by rfl) 31 _ (by rfl) (w.heap.size) (1) 33 (rfF R.1 R.2) (by rfl) _ (by exact HR1.out) Tryz.underlying31 rfl rsizeRef ?_; simp only [Act.put, List.setIfInBounds_toArray, List.set_cons_zero, List.set_cons_succ])
    | (refine tr_build3 (by rfl) 77 0 1 2 _ _ _ (by rfl) (.int .i64 (n : Int)) (.int .i64 0) (.agg (rfC R)) (by rfl) (by rfl) (by rfl) (poC (n : Int) 0 R) (by exact HB.out) ?_; simp only [Act.put, List.setIfInBounds_toArray, List.set_cons_zero, List.set_cons_succ])
    | fail)
  refine HBn.out.mono ?_
  rintro e w2 ⟨a, c, rfl, ho, hb⟩
  have HE : Hid (BnP w L er (.returned (.tuple #[.slice (some ⟨a, 0, none⟩) L.length c, .int .i64 er])) w2) := ⟨a, c, rfl, kown_mono ho HB1.out.size, HB1.out.trans (hb.mono HB1.out.size)⟩
  clear ho hb
  go_wp2_with fail
  go_ret2
  exact HE.out
end
end Go.Proofs.YtjhabngibbmpbaaGreat

namespace Go.Proofs.YtjhabngibbmpbaaGreat
open Go Go.RowKit
set_option linter.unusedSimpArgs false
set_option linter.unusedVariables false
/-- all that Each meets, and what is wrong -/
def evR (F : Nat → Nat) (N : Nat) (h : Int) (R : Rf) : List Ps × Int := if trOk h R then bnR F N h.toNat 0 R else ([], 1)
def allV (F : Nat → Nat) (N : Nat) (h : Int) (R : Rf) : List Ps × Int := if (evR F N h R).2 = 0 then ((evR F N h R).1, 0) else ([], (evR F N h R).2)
section
variable {B g N c m room i : Nat} {F : Nat → Nat} {U : Nat → Prop}
end
end Go.Proofs.YtjhabngibbmpbaaGreat

namespace Go.Proofs.YtjhabngibbmpbaaGreat
open Go Go.RowKit
set_option linter.unusedSimpArgs false
set_option linter.unusedVariables false
theorem TW.stepV {w w' : World} {B g N c m room i j ib xt : Nat} {F : Nat → Nat} {U V : Nat → Prop} {h : Int} {R : Rf} (H : TW w B g N F c m room i U ib xt h R) (h1 : TD w' B g N F c m room j V) (h2 : Turns U w w') (h3 : ∀ x, V x → U x ∨ w.heap.size ≤ x) : TW w' B g N F c m room j V ib xt h R := by
  refine ⟨h1, H.img.keptBy h2.size (h2.block ib H.bib H.hib), h2.blk H.tr H.hxt, fun z => ?_, fun z => ?_, Nat.lt_of_lt_of_le H.bib h2.size⟩
  · rcases h3 _ z with y | y
    · exact H.hib y
    · have := H.bib
      omega
  · rcases h3 _ z with y | y
    · exact H.hxt y
    · have := H.tr.lt
      omega
end Go.Proofs.YtjhabngibbmpbaaGreat

namespace Go.Proofs.YtjhabngibbmpbaaGreat
open Go Go.RowKit
set_option linter.unusedSimpArgs false
set_option linter.unusedVariables false
/-- a search as cells: the cache, the old tree, the function that is told -/
def seF (c : Nat) (h : Int) (R : Rf) (fv : Value) : Nat → Value := fun i => if i = 0 then .pointer (some ⟨c, 0, none⟩) else if i < 35 then trF h R (i - 1) else fv
def seC (c : Nat) (h : Int) (R : Rf) (fv : Value) : Array Value := va 36 (seF c h R fv)
theorem seC_size (c : Nat) (h : Int) (R : Rf) (fv : Value) : (seC c h R fv).size = 36 := va_size _ _
theorem size_se : (Tryz.prog.info? 125).map (·.size) = some 36 := by kernel_rfl
theorem seC_all (c : Nat) (h : Int) (R : Rf) (fv : Value) (hf : fv.oneCell' = true) : (seC c h R fv).all (·.oneCell') = true := va_one fun i hi => by
  unfold seF
  split
  · rfl
  · split
    · have h1 := trC_all h R
      unfold trC at h1
      rw [Array.all_eq_true] at h1
      have h2 := h1 (i - 1) (by rw [va_size]; omega)
      have h3 : (va 34 (trF h R))[i - 1]'(by rw [va_size]; omega) = trF h R (i - 1) := by
        have h4 := va_at (trF h R) (show i - 1 < 34 by omega)
        rw [Array.getElem?_eq_getElem (by rw [va_size]; omega)] at h4
        injection h4
      rw [h3] at h2
      exact h2
    · exact hf
theorem se_root {w : World} {b t c : Nat} {h : Int} {R : Rf} {fv : Value} (H : Blk w b t (seC c h R fv)) : w.rangeAt b 2 ((List.range 33).map (rfF R.1 R.2)) := by
  have := Blk.range (n := 36) (f := seF c h R fv) H 2 33 (by decide)
  rw [show ((List.range 33).map fun j => seF c h R fv (2 + j)) = (List.range 33).map (rfF R.1 R.2) from List.map_congr_left fun j hj => ?_] at this
  · exact this
  · have hj := List.mem_range.1 hj
    unfold seF trF
    rw [if_neg (show ¬ 2 + j = 0 by omega), if_pos (show 2 + j < 35 by omega), if_neg (show ¬ 2 + j - 1 = 0 by omega), show 2 + j - 1 - 1 = j by omega]
/-- nothing is not like something -/
theorem alike_none (R : Rf) (w : World) : Calls Tryz.prog 96 #[.agg (rfC R), .agg (rfC rf0)] w fun e w' => e = .returned (.bool false) ∧ Below w.heap.size w w' := by
  have hb1 : Below w.heap.size w ((w.alloc (.cells (rfC R) 44)).alloc (.cells (rfC rf0) 44)) := below_new2 _ _ _
  have r1 : Blk ((w.alloc (.cells (rfC R) 44)).alloc (.cells (rfC rf0) 44)) (w.heap.size + 1) 44 (rfC rf0) := Blk.new1 _ _ _ _
  have hNn : Hid (∀ w, Calls Tryz.prog 45 #[.agg (rfC rf0)] w fun e w' => e = .returned (.bool true) ∧ Below w.heap.size w w') := fun w => by
    have := none_any rf0 w
    rw [decide_eq_true rfl] at this
    exact this
  go_enter Tryz.func96, Tryz.ntmps96
  go_wp2_with (first
    | (refine wpList_load_rowg (by rfl) 44 _ (by rfl) (w.heap.size + 1) (by rfl) 44 (rfC rf0) (0, 0) _ (by exact r1) Tryz.underlying44 (by rfl) (tsizeRef.trans (by rw [rfC_size])) ?_; simp only [Act.put, List.setIfInBounds_toArray, List.set_cons_zero, List.set_cons_succ])
    | fail)
  generalize ((w.alloc (.cells (rfC R) 44)).alloc (.cells (rfC rf0) 44)) = w1 at *
  refine (hNn.out w1).mono ?_
  rintro e w2 ⟨rfl, hb2⟩
  have hb12 := hb1.trans (hb2.mono hb1.size)
  clear r1 hb2 hNn
  go_wp2_with fail
  go_ret
  exact ⟨rfl, hb12⟩
set_option maxRecDepth 100000 in
set_option maxHeartbeats 4000000 in
/-- where the old tree has nothing, its node is empty -/
theorem oldNode_none {c : Nat} {h : Int} {R : Rf} {fv : Value} (l : Int) (w : World) : Calls Tryz.prog 97 #[.agg (seC c h R fv), .agg (poC l 0 rf0)] w fun e w' => e = .returned (.tuple #[.agg (ndC 0 fun _ => rf0), .int .i64 0]) ∧ Below w.heap.size w w' := by
  have hzn := zero_node
  have hb1 : Below w.heap.size w (((w.alloc (.cells (seC c h R fv) 125)).alloc (.cells (poC l 0 rf0) 75)).alloc (.cells (ndC 0 fun _ => rf0) 157)) := below_new3 _ _ _ _
  have p1 : Blk (((w.alloc (.cells (seC c h R fv) 125)).alloc (.cells (poC l 0 rf0) 75)).alloc (.cells (ndC 0 fun _ => rf0) 157)) (w.heap.size + 1) 75 (poC l 0 rf0) := (Blk.new1 _ _ _ _).alloc _
  have n1 : Blk (((w.alloc (.cells (seC c h R fv) 125)).alloc (.cells (poC l 0 rf0) 75)).alloc (.cells (ndC 0 fun _ => rf0) 157)) (w.heap.size + 2) 157 (ndC 0 fun _ => rf0) := Blk.new2 _ _ _ _ _
  have HRP : Hid ((((w.alloc (.cells (seC c h R fv) 125)).alloc (.cells (poC l 0 rf0) 75)).alloc (.cells (ndC 0 fun _ => rf0) 157)).rangeAt (w.heap.size + 1) 2 ((List.range 33).map (rfF rf0.1 rf0.2))) := po_range p1
  have hNn : Hid (∀ w, Calls Tryz.prog 45 #[.agg (rfC rf0)] w fun e w' => e = .returned (.bool true) ∧ Below w.heap.size w w') := fun w => by
    have := none_any rf0 w
    rw [decide_eq_true rfl] at this
    exact this
  clear p1
  go_enter Tryz.func97, Tryz.ntmps97
  go_wp2_with (first
    | (refine wpList_load_blk (by rfl) 44 _ (by rfl) (w.heap.size + 1) (2) 33 (rfF rf0.1 rf0.2) (by rfl) _ (by exact HRP.out) Tryz.underlying44 rfl tsizeRef ?_; simp only [Act.put, List.setIfInBounds_toArray, List.set_cons_zero, List.set_cons_succ])
    | fail)
  clear HRP
  generalize (((w.alloc (.cells (seC c h R fv) 125)).alloc (.cells (poC l 0 rf0) 75)).alloc (.cells (ndC 0 fun _ => rf0) 157)) = w1 at *
  refine (hNn.out w1).mono ?_
  rintro e w2 ⟨rfl, hb2⟩
  have n2 := n1.below hb2 n1.lt
  have hb12 := hb1.trans (hb2.mono hb1.size)
  clear n1 hb2 hb1 hNn
  go_wp2_with (first
    | (refine wpList_store_row (by rfl) 157 _ _ (by rfl) (w.heap.size + 2) (ndC 0 fun _ => rf0) (by rfl) (by rfl) 157 (_) (by exact n2) (tsizeNd.trans (by rw [ndC_size])) (by simp only [ndC_size]) (ndC_all _ _) ?_; simp only [Act.put, List.setIfInBounds_toArray, List.set_cons_zero, List.set_cons_succ])
    | fail)
  try simp only [Exit.inBlock, Exit.then]
  refine bodyPost_ret (results_row2 Tryz.results97 _ _ (w.heap.size + 2) 157 (ndC 0 fun _ => rf0) (0, 0) _ rfl (n2.set _) Tryz.underlying157 rfl (tsizeNd.trans (by rw [ndC_size]))) rfl ?_
  exact ⟨rfl, below_setRow hb12 (by omega) _⟩
set_option maxRecDepth 100000 in
set_option maxHeartbeats 16000000 in
theorem tell1_any {bx Bm : Nat} (s : List Ps) (v : Value) (V : World) (l : Nat) (p : Int) (R : Rf) (hs : s.length < 34359738000) (H : QA bx Bm s v V) : Calls Tryz.prog 61 #[.agg (poC (l : Int) p R), .pointer (some ⟨bx, 0, none⟩)] V fun e w' => e = .returned (.tuple #[]) ∧ ∃ v', QA bx Bm (s ++ [(l, p, R)]) v' w' ∧ Turns (gft bx v) V w' ∧ ∀ b, gft bx v' b → gft bx v b ∨ V.heap.size ≤ b := by
  obtain ⟨i0, hi0, hz0, hz1, hz2⟩ := info_parts infoPo
  have HQ : Hid (PB V bx Bm v s ∧ Bm ≤ V.heap.size) := H
  obtain ⟨n, hn⟩ : ∃ n, s.length = n := ⟨_, rfl⟩
  have HN : Hid (s.length = n) := hn
  have hll : n < 34359738000 := hn ▸ hs
  clear hs H hn
  go_enter Tryz.func61, Tryz.ntmps61
  obtain ⟨qa, ka, hv⟩ := kown_slice HQ.out.1.2.1
  rw [HN.out] at hv
  subst hv
  generalize hc : poC (l : Int) p R = C
  have HC : Hid (C = poC (l : Int) p R) := hc.symm
  have hcs : C.size = 35 := by rw [← hc]; exact poC_size _ _ _
  clear hc
  have b1 : Blk (V.alloc (.cells C 75)) V.heap.size 75 C := Blk.new _ _ _
  have hb1 : Below V.heap.size V (V.alloc (.cells C 75)) := below_new1 V _
  have hb2 : Below V.heap.size V ((V.alloc (.cells C 75)).alloc (.cells C 75)) := hb1.trans ((below_new1 _ _).mono hb1.size)
  have HA1 : Hid (PB (V.alloc (.cells C 75)) bx Bm (.slice qa n ka) s) := HQ.out.1.below hb1
  have HA2 : Hid (PB ((V.alloc (.cells C 75)).alloc (.cells C 75)) bx Bm (.slice qa n ka) s) := HQ.out.1.below hb2
  have HB2 : Hid (Below V.heap.size V ((V.alloc (.cells C 75)).alloc (.cells C 75))) := hb2
  have c1 : (V.alloc (.cells C 75)).cell? ⟨bx, 0, none⟩ = some (.slice qa n ka) := (HA1.out.1.cell 0).trans rfl
  have HO2 : Hid (((V.alloc (.cells C 75)).alloc (.cells C 75)).ownsRow Bm 75 35 (.slice qa n ka) n (posL s)) := HA2.out.own HN.out
  have HNEW : Hid (∀ j u, C.toList[j]? = some u → ((V.alloc (.cells C 75)).alloc (.cells C 75)).cell? ((⟨(V.alloc (.cells C 75)).heap.size, 0, none⟩ : Addr).add j) = some u) := cells_new _ _ _
  have HMEM : Hid (∀ u ∈ C.toList, u.oneCell' = true) := by
    show ∀ u ∈ C.toList, _
    rw [HC.out]
    exact arr_memT (poC_all _ _ _)
  have HLEN : Hid (C.toList.length = 1 * 35) := by
    show _ = _
    rw [Array.length_toList, hcs]
  have HS2 : Hid (Bm ≤ ((V.alloc (.cells C 75)).alloc (.cells C 75)).heap.size) := Nat.le_trans HQ.out.2 hb2.size
  clear hb1 hb2
  go_wp2_with (first
    | (refine wpList_load_rowg (by rfl) 75 _ (by rfl) (V.heap.size) (by rfl) 75 C (0, 0) _ (by exact b1) Tryz.underlying75 (by rfl) (sizePo.trans (by rw [hcs])) ?_; simp only [Act.put, List.setIfInBounds_toArray, List.set_cons_zero, List.set_cons_succ])
    | (refine wpList_build1 (by rfl) 64 75 _ (by rfl) C (by rfl) i0 _ 35 Tryz.underlying64 hi0 hz0 hz1 hcs (by decide) (by decide) ?_; simp only [Act.put, List.setIfInBounds_toArray, List.set_cons_zero, List.set_cons_succ])
    | (at_builtin; refine wpList_append_own_at (by rfl) _ _ 64 (by rfl) Bm 75 i0 (.agg (poC 0 0 rf0)) 35 56 Tryz.underlying64 hi0 hz0 hz1 hz2 (poC_size _ _ _) (by decide) _ n _ (by rfl) (by exact HO2.out) ⟨(V.alloc (.cells C 75)).heap.size, 0, none⟩ 1 1 C.toList (by rfl) HLEN.out (by exact HNEW.out) (by exact HMEM.out) (by unfold maxLen; omega) (by omega) (by exact HS2.out) (fun v2 U2 ho2 hg2 ha2 => ?_); obtain ⟨q2, k2, rfl⟩ := kown_slice ho2; have hbU : Blk U2 bx 64 #[.slice qa n ka] := gs_grown HA2.out.1 hg2 HA2.out.2.2; have cU := (hbU.cell 0).trans rfl; have fU := hbU.frozen 0; simp only [Act.put, List.setIfInBounds_toArray, List.set_cons_zero, List.set_cons_succ])
    | fail)
  try simp only [Exit.inBlock, Exit.then]
  first
    | refine bodyPost_end (results_none Tryz.results61 _ _ _) rfl ?_
    | refine bodyPost_ret (results_none Tryz.results61 _ _ _) rfl ?_
  have hg : GS ((V.alloc (.cells C 75)).alloc (.cells C 75)) bx 64 Bm 75 35 (.slice qa n ka) n (posL s) := ⟨HA2.out.1, HO2.out, HA2.out.2.2⟩
  obtain ⟨h1, h2, h3⟩ := hg.grown HB2.out HQ.out.1.1.lt ho2 hg2 ha2
  refine ⟨rfl, _, ⟨?_, Nat.le_trans HQ.out.2 h2.size⟩, h2, h3⟩
  show GS _ _ _ _ _ _ _ _ _
  rw [List.length_append, HN.out, posL_snoc, ← HC.out]
  exact h1
end Go.Proofs.YtjhabngibbmpbaaGreat
