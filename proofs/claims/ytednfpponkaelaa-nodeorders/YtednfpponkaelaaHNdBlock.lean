/- A node's block: the program's contract of Block. -/
import Derived.Test.YtednfpponkaelaaHSegsP
import Derived.Test.YtednfpponkaelaaHNoRUn
import Derived.Deep.Cut
import Derived.Handy
import Derived.Test.YtednfpponkaelaaHDigRow
import Derived.Deep.RegionWith
import Derived.Deep.DrawnRows
import Derived.Deep.RegionLaw
import Derived.ArgAppend
import Derived.Deep.RegionHeld
import Derived.Carry
import Derived.Maps.AppendAt
import Derived.WalkSmall
import Derived.Deep.Heap
import Derived.Shelf.SlMaps.Clone
import Derived.Test.YtednfpponkaelaaHNdTake
import Derived.Test.YtednfpponkaelaaHBlkOpen
import Derived.OwnWalk

namespace Go.Proofs.Ytednfpponkaelaa
open Go Go.RowKit Go.Nam Go.Sort
set_option linter.unusedVariables false
set_option linter.unusedSimpArgs false
theorem make_refs (n : Nat) (hn : n * 36 ≤ 140737488355328) (w : World) : ∃ cur : Array Value, cur.size = n * 33 ∧ (Instr.makeSlice 22 (.int .i64 0) (.int .i64 (n : Int))).run Try.prog w = .ok (.slice (some ⟨w.heap.size, 0, none⟩) 0 n) (w.alloc (.cells cur 31)) := by
  obtain ⟨i0, hi, hz0, hz1, hz2⟩ := info_parts infoRf
  have := run_make (P := Try.prog) w 22 31 i0 (.agg (rfC rf0)) Try.underlying22 hi hz0 .i64 .i64 0 n (by omega) (by omega) (by rw [hz2]; omega) (by omega)
  rw [hz1] at this
  exact ⟨_, size_madeCells _ _, this⟩
theorem own_roomR {w : World} {g n : Nat} {cur : Array Value} (h : Blk w g 31 cur) (hc : cur.size = n * 33) (hn : n * 36 ≤ 140737488355328) (B : Nat) (hB : B ≤ g) : w.ownsRow B 31 33 (.slice (some ⟨g, 0, none⟩) 0 n) 0 (rfR []) :=
  ⟨by simp [rfR], .inr ⟨g, n, cur, rfl, hB, h, Nat.zero_le _, by unfold maxLen; omega, hc, by simp [rfR]⟩⟩
theorem ItS.sub {w : World} {r b : Nat} {l done : List Rf} (h : ItS w r b l done) : ∀ x ∈ done, x ∈ l := by
  obtain ⟨es, c, s, sn, c0, h1, h2, h3, h4, h5, h6, h7, h8⟩ := h
  exact h8
theorem ItS.nodup {w : World} {r b : Nat} {l done : List Rf} (h : ItS w r b l done) : done.Nodup := by
  obtain ⟨es, c, s, sn, c0, h1, h2, h3, h4, h5, h6, h7, h8⟩ := h
  exact h6
theorem ItS.ne {w : World} {r b : Nat} {l done : List Rf} (h : ItS w r b l done) {B e size n c g : Nat} {xs : List Value} (ho : w.ownsRow B e size (.slice (some ⟨g, 0, none⟩) n c) n xs) : r ≠ g := fun q => by
  obtain ⟨es, cc, s, sn, c0, h1, h2, rest⟩ := h
  rcases ho.2 with ⟨h, _⟩ | ⟨g', cap', cur, h, _, h2, _⟩
  · cases h
  · cases h
    rw [← q, h1] at h2
    cases h2
theorem kown_keep {w w' : World} {B e size n c g : Nat} {xs : List Value} (h : w.ownsRow B e size (.slice (some ⟨g, 0, none⟩) n c) n xs) (hk : w'.heap[g]? = w.heap[g]?) : w'.ownsRow B e size (.slice (some ⟨g, 0, none⟩) n c) n xs := by
  refine ⟨h.1, ?_⟩
  rcases h.2 with ⟨h, _⟩ | ⟨g', cap', cur, h, h1, h2, rest⟩
  · cases h
  · cases h
    exact .inr ⟨g, c, cur, rfl, h1, hk.trans h2, rest⟩
def slLen : Value → Nat
  | .slice _ n _ => n
  | _ => 0
set_option maxRecDepth 100000 in
set_option maxHeartbeats 8000000 in
theorem unlike_any (b c : Nat) (L : List Rf) (hw : ∀ x ∈ L, Rw x) (hn : L.length * 36 ≤ 140737488355328) (w : World) (hb : b < w.heap.size) (hI : IsF w b 0 L) :
    Calls Try.prog 7 #[.slice (some ⟨b, 0, none⟩) L.length c] w fun e w' => ∃ (g c2 : Nat), e = .returned (.slice (some ⟨g, 0, none⟩) (unR L).length c2) ∧ w.heap.size ≤ g ∧ g < w'.heap.size ∧ IsF w' g 0 (unR L) ∧ Below w.heap.size w w' := by
  obtain ⟨i0, hi0, hz0, hz1, hz2⟩ := info_parts infoRf
  obtain ⟨n, hln⟩ : ∃ n, L.length = n := ⟨_, rfl⟩
  have HI : Hid (IsF w b 0 L ∧ b < w.heap.size ∧ L.length = n ∧ ∀ x ∈ L, Rw x) := ⟨hI, hb, hln, hw⟩
  rw [hln] at hn ⊢
  have nb : (n : Int) ≤ 10000000000000 := by omega
  have hmm := @run_makeMap Try.prog
  have hz := zero_ref
  have H0 : Hid (MapS (w.alloc (.map #[] 0)) w.heap.size [] ∧ Below w.heap.size w (w.alloc (.map #[] 0))) := ⟨MapS.new (heap_alloc_new _ _), (Below.refl _ w).alloc (Nat.le_refl _) _⟩
  clear hI hb hln hw
  go_enter Try.func7, Try.ntmps7
  go_wp2_with fail
  go_loopw [11] (fun v11 wr => Hid (∃ (i : Nat) (l : List Rf), i ≤ n ∧ v11 = .int .i64 (i : Int) ∧ MapS wr w.heap.size l ∧ (∀ x, x ∈ l ↔ x ∈ L.take i) ∧ l.length ≤ i ∧ Below w.heap.size w wr)) (fun v11 _ => n - (intOf v11).toNat)
  case atStart => exact ⟨0, [], Nat.zero_le _, rfl, H0.out.1, fun x => by simp, Nat.le_refl _, H0.out.2⟩
  case round =>
    obtain ⟨WR, rfl⟩ : ∃ u, u = wr := ⟨_, rfl⟩
    obtain ⟨i, l, hin, rfl, hM, hmem, hll, hbl⟩ := Hid.out hrel
    have HM : Hid (MapS WR w.heap.size l ∧ (∀ x, x ∈ l ↔ x ∈ L.take i) ∧ l.length ≤ i ∧ Below w.heap.size w WR) := ⟨hM, hmem, hll, hbl⟩
    have hws : w.heap.size < WR.heap.size := hM.lt
    clear hrel hM hmem hll hbl H0
    by_cases hi : i < n
    · have i1 : (i : Int) < (n : Int) := by omega
      have i0z : (0 : Int) ≤ (i : Int) := by omega
      obtain ⟨x, hx⟩ : ∃ x, L[i]? = some x := ⟨_, List.getElem?_eq_getElem (by rw [HI.out.2.2.1]; exact hi)⟩
      have HX : Hid (WR.rangeAt b (i * 33) ((List.range 33).map (rfF x.1 x.2))) := by
        have := (HI.out.1.below HM.out.2.2.2 HI.out.2.1).range hx
        rwa [Nat.zero_add] at this
      have HTK : Hid (L.take (i + 1) = L.take i ++ [x]) := by
        show _ = _
        rw [List.take_add_one, hx]
        rfl
      have HZ0 : Hid (Blk (WR.alloc (.cells (rfC rf0) 31)) WR.heap.size 31 (rfC rf0)) := Blk.new _ _ _
      have HZ1 : Hid (Blk ((WR.alloc (.cells (rfC rf0) 31)).setRow WR.heap.size (rfC x)) WR.heap.size 31 (rfC x)) := HZ0.out.set _
      have HBW : Hid (Below WR.heap.size WR ((WR.alloc (.cells (rfC rf0) 31)).setRow WR.heap.size (rfC x))) := below_setRow (below_new1 _ _) (Nat.le_refl _) _
      have HM1 : Hid (MapS ((WR.alloc (.cells (rfC rf0) 31)).setRow WR.heap.size (rfC x)) w.heap.size l) := HM.out.1.keep (HBW.out.block _ hws)
      clear hx
      go_upto_region 5 with (first | (refine wpList_load_blk (by rfl) 31 _ (by rfl) b (i * 33) 33 (rfF x.1 x.2) (by rfl) _ (by exact HX.out) Try.underlying31 rfl slSizeRef ?_; simp only [Act.put, List.setIfInBounds_toArray, List.set_cons_zero, List.set_cons_succ]) | (refine wpList_store_row (by rfl) 31 _ _ (by rfl) (WR.heap.size) (rfC x) (by rfl) (by rfl) 31 (rfC rf0) (by exact HZ0.out) (slSizeRef.trans (by rw [rfC_size])) (by simp only [rfC_size]) (rfC_all _) ?_; simp only [Act.put, List.setIfInBounds_toArray, List.set_cons_zero, List.set_cons_succ]) | fail)
      generalize ((WR.alloc (.cells (rfC rf0) 31)).setRow WR.heap.size (rfC x)) = W1 at *
      go_wp2_with (first | (refine wpList_load_rowg (by rfl) 31 _ (by rfl) (WR.heap.size) (by rfl) 31 (rfC x) (0, 0) _ (by exact HZ1.out) Try.underlying31 (by rfl) (slSizeRef.trans (by rw [rfC_size])) ?_; simp only [Act.put, List.setIfInBounds_toArray, List.set_cons_zero, List.set_cons_succ]) | (refine wpList_put_S (by rfl) _ _ _ 42 (by rfl) 31 _ Try.underlying42 ref_key (w.heap.size) l x (by rfl) (by rfl) (by rfl) (by exact HM1.out) ?_; intro w2 hm2 hk2) | fail)
      go_roundw
      case rel => exact ⟨i + 1, _, by omega, by first | rfl | go_num | simp, hm2, fun y => by
        rw [HTK.out, List.mem_append, List.mem_singleton, ← HM.out.2.1 y]
        by_cases h : x ∈ l
        · rw [if_pos h]
          exact ⟨Or.inl, fun q => q.elim id fun e => e ▸ h⟩
        · rw [if_neg h, List.mem_append, List.mem_singleton], by
        have := HM.out.2.2.1
        split
        · omega
        · simp; omega, (HM.out.2.2.2.trans (HBW.out.mono HM.out.2.2.2.size)).trans hk2.1⟩
      case measure => simp [intOf]; omega
    · have i1 : ¬ ((i : Int) < (n : Int)) := by omega
      obtain rfl : i = n := by omega
      have HN : Hid (∀ x, x ∈ l ↔ x ∈ L) := fun x => by
        rw [HM.out.2.1 x, List.take_of_length_le (by rw [HI.out.2.2.1]; exact Nat.le_refl _)]
      obtain ⟨m, hm⟩ : ∃ m, l.length = m := ⟨_, rfl⟩
      have hmn : m ≤ i := by rw [← hm]; exact HM.out.2.2.1
      obtain ⟨cur, hcur, hmk⟩ := make_refs m (by omega) WR
      have HLEN : Hid (l.length = m) := hm
      have HR0 : Hid ((WR.alloc (.cells cur 31)).ownsRow WR.heap.size 31 33 (.slice (some ⟨WR.heap.size, 0, none⟩) 0 m) 0 (rfR [])) := own_roomR (Blk.new _ _ _) hcur (by omega) _ (Nat.le_refl _)
      have HMV : Hid (MapS (WR.alloc (.cells cur 31)) w.heap.size l) := HM.out.1.keep (heap_alloc_old _ _ hws)
      have HBV : Hid (Below w.heap.size w (WR.alloc (.cells cur 31))) := HM.out.2.2.2.alloc (Nat.le_of_lt hws) _
      have HVS : Hid ((WR.alloc (.cells cur 31)).heap.size = WR.heap.size + 1) := by show _ = _; simp
      clear hcur hm
      go_upto_region 8 with (first | (refine wpList_len_S (by rfl) _ 42 (by rfl) 31 _ Try.underlying42 (w.heap.size) l (by rfl) (by exact HM.out.1) ?_; rw [HLEN.out]; simp only [Act.put, List.setIfInBounds_toArray, List.set_cons_zero, List.set_cons_succ]) | fail)
      generalize (WR.alloc (.cells cur 31)) = V0 at *
      go_wp2_with (first | (at_range; refine wpList_range_S (by rfl) _ 42 (by rfl) 31 _ Try.underlying42 (w.heap.size) l (by rfl) (by exact HMV.out) ?_; intro V1 hit hbw hsz) | fail)
      have HIT0 : Hid (ItS V1 V0.heap.size w.heap.size l []) := hit
      have HO1 : Hid (V1.ownsRow WR.heap.size 31 33 (.slice (some ⟨WR.heap.size, 0, none⟩) 0 m) 0 (rfR [])) := nkownBel HR0.out hbw
      have HB1 : Hid (Below w.heap.size w V1) := HBV.out.trans (hbw.mono HBV.out.size)
      have HVR : Hid (WR.heap.size < V0.heap.size) := by have := HVS.out; show _ < _; omega
      clear hit hbw hsz HR0 HMV HBV
      go_loopw [6] (fun v6 wr => Hid (∃ (done : List Rf) (g cp : Nat), v6 = .slice (some ⟨g, 0, none⟩) done.length cp ∧ ItS wr V0.heap.size w.heap.size l done ∧ wr.ownsRow WR.heap.size 31 33 (.slice (some ⟨g, 0, none⟩) done.length cp) done.length (rfR done) ∧ Below w.heap.size w wr)) (fun v6 _ => m - slLen v6)
      case atStart => exact ⟨[], WR.heap.size, m, rfl, HIT0.out, HO1.out, HB1.out⟩
      case round =>
        obtain ⟨U0, rfl⟩ : ∃ u, u = wr := ⟨_, rfl⟩
        obtain ⟨done, g, cp, rfl, hit, hown, hb0⟩ := Hid.out hrel
        have HIT : Hid (ItS U0 V0.heap.size w.heap.size l done) := hit
        have HOW : Hid (U0.ownsRow WR.heap.size 31 33 (.slice (some ⟨g, 0, none⟩) done.length cp) done.length (rfR done)) := hown
        have HB0 : Hid (Below w.heap.size w U0) := hb0
        have hdl : done.length ≤ m := by rw [← HLEN.out]; exact hit.le
        have hne : V0.heap.size ≠ w.heap.size := by have := HVR.out; omega
        clear hrel hit hown hb0 HIT0 HO1 HB1
        go_upto_region 10 with (first | (at_next; refine wpList_next_S (by rfl) _ (by rfl) V0.heap.size w.heap.size l done (by rfl) (by exact HIT.out) hne (fun hall => ?_) (fun x W2 hxl hxd hit2 hk2 hen => ?_)) | fail)
        · have HS : Hid (∀ x, x ∈ done ↔ x ∈ L) := fun x => by
            rw [← HN.out x]
            exact ⟨fun h => HIT.out.sub x h, fun h => hall x h⟩
          have HC : Hid (Calls Try.prog 14 #[.slice (some ⟨g, 0, none⟩) done.length cp, .func (.func 5) #[] #[]] U0 fun e w' => e = .returned (.tuple #[]) ∧ ∃ D', Up D' ∧ (∀ x, x ∈ D' ↔ x ∈ done) ∧ D'.length = done.length ∧ IsF w' g 0 D' ∧ Keeps g U0 w') :=
            sortRf_any WR.heap.size g cp done (fun x hx => HI.out.2.2.2 x ((HS.out x).1 hx)) HIT.out.nodup (by omega) U0 HOW.out
          have HGG : Hid (WR.heap.size ≤ g ∧ g < U0.heap.size) := HOW.out.lt g rfl
          clear hall
          go_wp2_with fail
          refine HC.out.mono ?_
          rintro e w3 ⟨rfl, D', hup, hmm, hlen, hIs, hk⟩
          have HD : Hid (D' = unR L) := unR_is hup fun x => by rw [hmm x, HS.out x]
          have HL2 : Hid (done.length = (unR L).length) := by
            show _ = _
            rw [← hlen, HD.out]
          have HIS : Hid (IsF w3 g 0 (unR L)) := by rw [← HD.out]; exact hIs
          have HK : Hid (Keeps g U0 w3) := hk
          clear hup hmm hlen hIs hk
          go_wp2_with fail
          go_ret
          have h1 := HGG.out
          exact ⟨g, cp, by rw [← HL2.out] <;> rfl, by omega, by have := HK.out.1.size; omega, HIS.out, HB0.out.trans (HK.out.1.mono (by omega))⟩
        · have HNE : Hid (V0.heap.size ≠ g) := HIT.out.ne HOW.out
          have HIT2 : Hid (ItS W2 V0.heap.size w.heap.size l (done ++ [x])) := hit2
          have HO2 : Hid (W2.ownsRow WR.heap.size 31 33 (.slice (some ⟨g, 0, none⟩) done.length cp) done.length (rfR done)) := kown_keep HOW.out (hk2.2 g (Ne.symm HNE.out) (HOW.out.lt g rfl).2)
          have HB2 : Hid (Below w.heap.size w W2) := HB0.out.trans (hk2.1.mono (by have := HVR.out; omega))
          have HZ0 : Hid (Blk (W2.alloc (.cells (rfC rf0) 31)) W2.heap.size 31 (rfC rf0)) := Blk.new _ _ _
          have HZ1 : Hid (Blk ((W2.alloc (.cells (rfC rf0) 31)).setRow W2.heap.size (rfC x)) W2.heap.size 31 (rfC x)) := HZ0.out.set _
          have HBW : Hid (Below W2.heap.size W2 ((W2.alloc (.cells (rfC rf0) 31)).setRow W2.heap.size (rfC x))) := below_setRow (below_new1 _ _) (Nat.le_refl _) _
          have hdm : done.length + 1 ≤ m := by
            have := hit2.le
            rw [List.length_append, HLEN.out] at this
            simpa using this
          have hlt2 := hit2.lt
          have HLT : Hid (V0.heap.size < W2.heap.size ∧ w.heap.size < W2.heap.size) := hlt2
          clear hit2 hk2 hxl hxd hlt2
          go_upto_region 11 with (first | (refine wpList_store_row (by rfl) 31 _ _ (by rfl) (W2.heap.size) (rfC x) (by rfl) (by rfl) 31 (rfC rf0) (by exact HZ0.out) (slSizeRef.trans (by rw [rfC_size])) (by simp only [rfC_size]) (rfC_all _) ?_; simp only [Act.put, List.setIfInBounds_toArray, List.set_cons_zero, List.set_cons_succ]) | fail)
          generalize ((W2.alloc (.cells (rfC rf0) 31)).setRow W2.heap.size (rfC x)) = W3 at *
          have HX4 : Hid (IsF (W3.alloc (.cells (rfC x) 31)) W3.heap.size 0 [x]) := isF_new (Blk.new W3 31 (rfC x))
          have HO4 : Hid ((W3.alloc (.cells (rfC x) 31)).ownsRow WR.heap.size 31 33 (.slice (some ⟨g, 0, none⟩) done.length cp) done.length (rfR done)) := (nkownBel HO2.out HBW.out).alloc _
          have HB4 : Hid (Below W2.heap.size W2 (W3.alloc (.cells (rfC x) 31))) := HBW.out.alloc HBW.out.size _
          have HSZ : Hid (WR.heap.size ≤ (W3.alloc (.cells (rfC x) 31)).heap.size) := by
            have h1 := HB4.out.size
            have h2 := HLT.out.1
            have h3 := HVR.out
            show _ ≤ _
            omega
          have HBND : Hid ((done.length + [x].length) * 36 ≤ 140737488355328) := by show _ ≤ _; simp; omega
          go_wp2_with (first | (refine wpList_load_rowg (by rfl) 31 _ (by rfl) (W2.heap.size) (by rfl) 31 (rfC x) (0, 0) _ (by exact HZ1.out) Try.underlying31 (by rfl) (slSizeRef.trans (by rw [rfC_size])) ?_; simp only [Act.put, List.setIfInBounds_toArray, List.set_cons_zero, List.set_cons_succ]) | (refine wpList_build1 (by rfl) 22 31 _ (by rfl) (rfC x) (by rfl) i0 _ 33 Try.underlying22 hi0 hz0 hz1 (rfC_size _) (by decide) (by decide) ?_; simp only [Act.put, List.setIfInBounds_toArray, List.set_cons_zero, List.set_cons_succ]) | (refine wpList_append_rfs (by rfl) _ _ 22 (by rfl) WR.heap.size 31 i0 (.agg (rfC rf0)) Try.underlying22 hi0 hz0 hz1 hz2 rf0_cells (.slice (some ⟨g, 0, none⟩) done.length cp) done done.length rfl (by rfl) (by exact HO4.out) W3.heap.size 0 1 1 [x] rfl (by rfl) (by exact HX4.out) HBND.out HSZ.out ?_; intro v5 U5 ho5 hb5 hg5) | fail)
          obtain ⟨g5, c5, rfl, _⟩ := kown_form ho5 (by omega)
          go_roundw
          case rel =>
            refine ⟨done ++ [x], g5, c5, by rw [List.length_append] <;> rfl, HIT2.out.keep ?_ ?_, by rw [List.length_append]; exact ho5, ?_⟩
            · exact (hg5.block _ (by have := HB4.out.size; have := HLT.out; omega) (by simp [Value.ownBlock]; exact HNE.out)).trans (HB4.out.block _ HLT.out.1)
            · refine (hg5.block _ (by have := HB4.out.size; have := HLT.out; omega) ?_).trans (HB4.out.block _ HLT.out.2)
              have := (HOW.out.lt g rfl).1
              simp [Value.ownBlock]
              omega
            · exact (HB2.out.trans (HB4.out.mono HB2.out.size)).trans (hb5.mono (by omega))
          case measure => simp [slLen]; omega
end Go.Proofs.Ytednfpponkaelaa

namespace Go.Proofs.Ytednfpponkaelaa
open Go.RowKit
set_option linter.unusedSimpArgs false
set_option linter.unusedVariables false

/-- what a log may change: its own block, its map, its row -/
def LogKeeps (g r : Nat) (v : Value) (w w' : World) : Prop :=
  w'.os = w.os ∧ w'.tape = w.tape ∧ w'.output = w.output ∧ w.heap.size ≤ w'.heap.size ∧ ∀ k, k < w.heap.size → k ≠ g → k ≠ r → v.ownBlock ≠ some k → w'.heap[k]? = w.heap[k]?

end Go.Proofs.Ytednfpponkaelaa

namespace Go.Proofs.Ytednfpponkaelaa
open Go.RowKit
set_option linter.unusedSimpArgs false
set_option linter.unusedVariables false

theorem own_own {w : World} {B B' e e' size size' n n' k : Nat} {v v' : Value} {xs xs' : List Value} (h : w.ownsRow B e size v n xs) (h' : w.ownsRow B' e' size' v' n' xs') (hne : e ≠ e') (hk : v.ownBlock = some k) : v'.ownBlock ≠ some k := fun hk' => by
  rcases h.2 with ⟨rfl, _⟩ | ⟨b, cap, cur, rfl, _, hg, _⟩
  · simp [Value.ownBlock] at hk
  · rcases h'.2 with ⟨rfl, _⟩ | ⟨b', cap', cur', rfl, _, hg', _⟩
    · simp [Value.ownBlock] at hk'
    · simp [Value.ownBlock] at hk hk'
      subst hk
      subst hk'
      rw [hg] at hg'
      simp at hg'
      exact hne hg'.2
/-- two logs that share no memory -/
def Apart2 (g r : Nat) (v : Value) (g' r' : Nat) (v' : Value) : Prop := g' ≠ g ∧ r' ≠ r ∧ ∀ k, v'.ownBlock = some k → v.ownBlock ≠ some k
/-- all of a log lies from B on -/
def LogFrom (B g r : Nat) (v : Value) : Prop := B ≤ g ∧ B ≤ r ∧ ∀ k, v.ownBlock = some k → B ≤ k
section
variable {w w' : World} {g r : Nat} {v : Value} {E : List (Nat × ByteArray)}
theorem LogKeeps.below {B : Nat} (hk : LogKeeps g r v w w') (hf : LogFrom B g r v) (hB : B ≤ w.heap.size) : Below B w w' :=
  ⟨hk.1, hk.2.1, hk.2.2.1, hk.2.2.2.1, fun k hkB => hk.2.2.2.2 k (by omega) (by have := hf.1; omega) (by have := hf.2.1; omega) (fun q => by have := hf.2.2 k q; omega)⟩
end
theorem Apart2.symm {g r : Nat} {v : Value} {g' r' : Nat} {v' : Value} (h : Apart2 g r v g' r' v') : Apart2 g' r' v' g r v := ⟨h.1.symm, h.2.1.symm, fun k h1 h2 => h.2.2 k h2 h1⟩
theorem LogFrom.grow {w : World} {B g r : Nat} {v u : Value} (h : LogFrom B g r v) (hB : B ≤ w.heap.size) (hu : u.ownBlock = v.ownBlock ∨ ∃ k, u.ownBlock = some k ∧ w.heap.size ≤ k) : LogFrom B g r u :=
  ⟨h.1, h.2.1, fun k h1 => by
    rcases hu with q | ⟨k', q, hk'⟩
    · rw [q] at h1
      exact h.2.2 k h1
    · rw [q] at h1
      injection h1 with h1
      omega⟩
end Go.Proofs.Ytednfpponkaelaa

namespace Go.Proofs.Ytednfpponkaelaa
open Go Go.RowKit
set_option linter.unusedSimpArgs false
set_option linter.unusedVariables false

def intL (l : List Nat) : List Value := l.map fun (x : Nat) => Value.int .i64 (x : Int)
/-- the slice v of slices ss holds the groups G, all from block B on, no two in one block -/
structure GrpAt (w : World) (B : Nat) (v : Value) (G : List (List Nat)) (ss : List Value) : Prop where
  row : w.ownsRow B 56 1 v G.length ss
  each : ∀ j, j < G.length → w.ownsRow B 3 1 (ss.getD j undef) (G.getD j []).length (intL (G.getD j []))
  apart : ∀ i j, i ≠ j → i < G.length → j < G.length → ∀ b, (ss.getD i undef).ownBlock = some b → (ss.getD j undef).ownBlock ≠ some b
theorem GrpAt.len {w : World} {B : Nat} {v : Value} {G : List (List Nat)} {ss : List Value} (h : GrpAt w B v G ss) : ss.length = G.length := by
  have := h.row.1
  omega
theorem GrpAt.below {w w' : World} {B : Nat} {v : Value} {G : List (List Nat)} {ss : List Value} (h : GrpAt w B v G ss) (hb : Below w.heap.size w w') : GrpAt w' B v G ss :=
  ⟨kown_below h.row hb, fun j hj => kown_below (h.each j hj) hb, h.apart⟩
theorem GrpAt.nil (w : World) (B : Nat) : GrpAt w B (.slice none 0 0) [] [] := ⟨World.ownsRow_nil _ _ _ _, fun j hj => absurd hj (by simp), fun i j _ hi => absurd hi (by simp)⟩
/-- one more group, with nothing in it -/
theorem GrpAt.more {w w' : World} {B : Nat} {v v' : Value} {G : List (List Nat)} {ss : List Value} (h : GrpAt w B v G ss) (hrow : w'.ownsRow B 56 1 v' (G.length + 1) (ss ++ [.slice none 0 0])) (hg : w.grownBy w' v.ownBlock) : GrpAt w' B v' (G ++ [[]]) (ss ++ [.slice none 0 0]) := by
  have hl := h.len
  have e1 : ∀ j, j < G.length → (ss ++ [Value.slice none 0 0]).getD j undef = ss.getD j undef := fun j hj => by
    simp [List.getD, List.getElem?_append_left (show j < ss.length by omega)]
  have e2 : (ss ++ [Value.slice none 0 0]).getD G.length undef = .slice none 0 0 := by
    rw [← hl]
    simp [List.getD]
  refine ⟨by simpa using hrow, fun j hj => ?_, fun i j hij hi hj b hb => ?_⟩
  · by_cases hjl : j < G.length
    · rw [e1 j hjl, show (G ++ [([] : List Nat)]).getD j [] = G.getD j [] by simp [List.getD, List.getElem?_append_left hjl]]
      refine (h.each j hjl).kept hg ?_
      cases hq : (ss.getD j undef).ownBlock with
      | none => exact .inl rfl
      | some k => exact .inr fun q => own_own (h.each j hjl) h.row (by decide) hq q.symm
    · obtain rfl : j = G.length := by simp at hj; omega
      rw [e2, show (G ++ [([] : List Nat)]).getD G.length [] = [] by simp [List.getD]]
      exact World.ownsRow_nil _ _ _ _
  · have hil : i < G.length := by
      rcases Nat.lt_or_ge i G.length with q | q
      · exact q
      · obtain rfl : i = G.length := by simp at hi; omega
        rw [e2] at hb
        cases hb
    rw [e1 i hil] at hb
    by_cases hjl : j < G.length
    · rw [e1 j hjl]
      exact h.apart i j hij hil hjl b hb
    · obtain rfl : j = G.length := by simp at hj; omega
      rw [e2]
      exact fun q => by cases q
theorem own_setCell {w : World} {B e n g cap : Nat} {xs : List Value} (h : w.ownsRow B e 1 (.slice (some ⟨g, 0, none⟩) n cap) n xs) (j : Nat) (hj : j < n) (x : Value) : (w.setCell ⟨g, j, none⟩ x).ownsRow B e 1 (.slice (some ⟨g, 0, none⟩) n cap) n (xs.set j x) := by
  rcases h.2 with ⟨hn, _⟩ | ⟨g', cap', cur, hv, hb, hg, h1, h2, h3, h4⟩
  · cases hn
  · injection hv with hv1 hv2 hv3
    injection hv1 with hv1
    injection hv1 with hv1
    subst hv1 hv3
    have hB : Blk w g e cur := hg
    refine ⟨by simpa using h.1, .inr ⟨g, cap, cur.setIfInBounds j x, rfl, hb, hB.put j x, h1, h2, by simpa using h3, ?_⟩⟩
    rw [← h4]
    simp [List.take_set]
theorem own_setCell_other {w : World} {B e n g : Nat} {v : Value} {xs : List Value} (h : w.ownsRow B e 1 v n xs) (hne : v.ownBlock ≠ some g) (j : Nat) (x : Value) : (w.setCell ⟨g, j, none⟩ x).ownsRow B e 1 v n xs :=
  kown_kept h fun k _ hv => Below.heap_setCell w ⟨g, j, none⟩ x k fun q => hne (by rw [hv, q])
/-- one more number in a group -/
theorem GrpAt.push {w w' : World} {B g cap : Nat} {G : List (List Nat)} {ss : List Value} {j x : Nat} {s' : Value} (h : GrpAt w B (.slice (some ⟨g, 0, none⟩) G.length cap) G ss) (hj : j < G.length)
    (hrow : w'.ownsRow B 3 1 s' ((G.getD j []).length + 1) (intL (G.getD j []) ++ [.int .i64 (x : Int)])) (hg : w.grownBy w' (ss.getD j undef).ownBlock) (hs : s'.ownBlock = (ss.getD j undef).ownBlock ∨ ∃ k, s'.ownBlock = some k ∧ w.heap.size ≤ k) :
    GrpAt (w'.setCell ⟨g, j, none⟩ s') B (.slice (some ⟨g, 0, none⟩) G.length cap) (G.set j (G.getD j [] ++ [x])) (ss.set j s') := by
  have hl := h.len
  have hgs : (ss.getD j undef).ownBlock ≠ some g := fun q => own_own (h.each j hj) h.row (by decide) q rfl
  have hrow' : w'.ownsRow B 56 1 (.slice (some ⟨g, 0, none⟩) G.length cap) G.length ss := h.row.kept hg (.inr fun q => hgs q.symm)
  have ej : (ss.set j s').getD j undef = s' := by simp [List.getD, hl, hj]
  have en : ∀ i, i ≠ j → (ss.set j s').getD i undef = ss.getD i undef := fun i hi => by simp [List.getD, List.getElem?_set_ne (Ne.symm hi)]
  have Gj : (G.set j (G.getD j [] ++ [x])).getD j [] = G.getD j [] ++ [x] := by simp [List.getD, hj]
  have Gn : ∀ i, i ≠ j → (G.set j (G.getD j [] ++ [x])).getD i [] = G.getD i [] := fun i hi => by simp [List.getD, List.getElem?_set_ne (Ne.symm hi)]
  have hsg : s'.ownBlock ≠ some g := fun q => own_own hrow hrow' (by decide) q rfl
  refine ⟨by simpa using own_setCell hrow' j hj s', fun i hi => ?_, fun i k hik hi hk b hb => ?_⟩
  · rw [List.length_set] at hi
    by_cases hij : i = j
    · subst hij
      rw [ej, Gj]
      refine own_setCell_other ?_ hsg _ _
      simpa [intL] using hrow
    · rw [en i hij, Gn i hij]
      have hne : (ss.getD i undef).ownBlock ≠ some g := fun q => own_own (h.each i hi) h.row (by decide) q rfl
      refine own_setCell_other ((h.each i hi).kept hg ?_) hne _ _
      cases hq : (ss.getD i undef).ownBlock with
      | none => exact .inl rfl
      | some b => exact .inr fun q => h.apart i j hij hi hj b hq q.symm
  · rw [List.length_set] at hi hk
    by_cases hij : i = j
    · subst hij
      rw [ej] at hb
      rw [en k (Ne.symm hik)]
      intro q
      rcases hs with hs | ⟨z, hz, hzl⟩
      · exact h.apart i k hik hi hk b (by rw [← hs]; exact hb) q
      · rw [hz] at hb
        injection hb with hb
        have := ((h.each k hk).lt b q).2
        omega
    · rw [en i hij] at hb
      by_cases hkj : k = j
      · subst hkj
        rw [ej]
        intro q
        rcases hs with hs | ⟨z, hz, hzl⟩
        · exact h.apart i k hik hi hk b hb (by rw [← hs]; exact q)
        · rw [hz] at q
          injection q with q
          have := ((h.each i hi).lt b hb).2
          omega
      · rw [en k hkj]
        exact h.apart i k hik hi hk b hb
end Go.Proofs.Ytednfpponkaelaa

namespace Go.Proofs.Ytednfpponkaelaa
open Go Go.RowKit
set_option linter.unusedSimpArgs false
set_option linter.unusedVariables false

theorem nd_build2 {P : Program} {ops : Array Oper} {rest : List Oper} {o : Oper} {a : Act} {w : World} {Q : Exit → Act → World → Prop} (hg : o.guard = none) (t : TypeId) (x y : Operand) (ho : o.op = .build t #[(0, x), (1, y)]) (vx vy : Value) (hx : a.eval x = vx) (hy : a.eval y = vy)
    (cells : Array Value) (hf : P.built t [(0, vx), (1, vy)] = some cells) (h : wpList P ops Q rest (a.put o.dst (.agg cells)) w) : wpList P ops Q (o :: rest) a w := by
  refine wpList_buildTo hg t _ ho o.dst rfl cells ?_ h
  have e : (Array.map (fun (x : Nat × Operand) => match x with | (i, x) => (i, a.eval x)) #[(0, x), (1, y)]).toList = [(0, vx), (1, vy)] := by simp [hx, hy]
  rw [e]
  exact hf
theorem built_refC (a : Nat) (d : Vector Nat 32) : Try.prog.built 31 [(0, .int .u32 (a : Int)), (1, .agg (va 32 (iv .u8 (dF d))))] = some (rfC (a, d)) := built_refD a d
set_option maxRecDepth 100000 in
set_option maxHeartbeats 4000000 in
theorem refRef_any (r : Rf) (w : World) : Calls Try.prog 4 #[.agg (rfC r)] w fun e w' => e = .returned (.agg (rfC r)) ∧ Below w.heap.size w w' := by
  have hz := zero_rref
  have r0 : Blk ((w.alloc (.cells (rfC r) 31)).alloc (.cells (rfC rf0) 27)) w.heap.size 31 (va 33 (rfF r.1 r.2)) := (Blk.new _ _ _).alloc _
  have r1 : Blk ((w.alloc (.cells (rfC r) 31)).alloc (.cells (rfC rf0) 27)) (w.heap.size + 1) 27 (rfC rf0) := Blk.new1 _ _ _ _
  have hb : Below w.heap.size w ((w.alloc (.cells (rfC r) 31)).alloc (.cells (rfC rf0) 27)) := below_new2 _ _ _
  have x1 : ((w.alloc (.cells (rfC r) 31)).alloc (.cells (rfC rf0) 27)).cell? ⟨w.heap.size, 0, none⟩ = some (.int .u32 (r.1 : Int)) := by
    rw [r0.cell]
    exact va_at (rfF r.1 r.2) (by decide)
  have HR : Hid (((w.alloc (.cells (rfC r) 31)).alloc (.cells (rfC rf0) 27)).rangeAt w.heap.size 1 ((List.range 32).map (iv .u8 (dF r.2)))) := fun j v hv => by
    have := r0.range 1 32 (by omega) j v
    refine this ?_
    rw [← hv]
    congr 1
  have HBT : Hid (Try.prog.built 27 [(0, .int .u32 (r.1 : Int)), (1, .agg (va 32 (iv .u8 (dF r.2))))] = some (rfC r)) := built_rref r.1 r.2
  go_enter Try.func4, Try.ntmps4
  go_wp2_with (first
    | (refine wpList_load_blk (by rfl) 29 _ (by rfl) (w.heap.size) (1) 32 (iv .u8 (dF r.2)) (by rfl) _ (by exact HR.out) Try.underlying29 rfl sizeSm ?_; simp only [Act.put, List.setIfInBounds_toArray, List.set_cons_zero, List.set_cons_succ])
    | (refine nd_build2 (by rfl) 27 _ _ (by rfl) (.int .u32 (r.1 : Int)) (.agg (va 32 (iv .u8 (dF r.2)))) (by rfl) (by rfl) (rfC r) (by exact HBT.out) ?_; simp only [Act.put, List.setIfInBounds_toArray, List.set_cons_zero, List.set_cons_succ])
    | (refine wpList_store_row (by rfl) 27 _ _ (by rfl) (w.heap.size + 1) (rfC r) (by rfl) (by rfl) 27 _ (by exact r1) (sizeRref.trans (by rw [rfC_size])) (by simp only [rfC_size]) (rfC_all _) ?_; simp only [Act.put, List.setIfInBounds_toArray, List.set_cons_zero, List.set_cons_succ])
    | fail)
  try simp only [Exit.inBlock, Exit.then]
  refine bodyPost_ret (results_cell_row Try.results4 _ _ (w.heap.size + 1) 27 (rfC r) (0, 0) _ rfl (r1.set _) Try.underlying27 rfl (sizeRref.trans (by rw [rfC_size]))) rfl ?_
  exact ⟨rfl, below_setRow hb (by omega) _⟩
set_option maxRecDepth 100000 in
set_option maxHeartbeats 4000000 in
theorem refPlain_any (r : Rf) (w : World) : Calls Try.prog 10 #[.agg (rfC r)] w fun e w' => e = .returned (.agg (rfC r)) ∧ Below w.heap.size w w' := by
  have hz := zero_ref
  have r0 : Blk ((w.alloc (.cells (rfC r) 27)).alloc (.cells (rfC rf0) 31)) w.heap.size 27 (va 33 (rfF r.1 r.2)) := (Blk.new _ _ _).alloc _
  have r1 : Blk ((w.alloc (.cells (rfC r) 27)).alloc (.cells (rfC rf0) 31)) (w.heap.size + 1) 31 (rfC rf0) := Blk.new1 _ _ _ _
  have hb : Below w.heap.size w ((w.alloc (.cells (rfC r) 27)).alloc (.cells (rfC rf0) 31)) := below_new2 _ _ _
  have x1 : ((w.alloc (.cells (rfC r) 27)).alloc (.cells (rfC rf0) 31)).cell? ⟨w.heap.size, 0, none⟩ = some (.int .u32 (r.1 : Int)) := by
    rw [r0.cell]
    exact va_at (rfF r.1 r.2) (by decide)
  have HR : Hid (((w.alloc (.cells (rfC r) 27)).alloc (.cells (rfC rf0) 31)).rangeAt w.heap.size 1 ((List.range 32).map (iv .u8 (dF r.2)))) := fun j v hv => by
    have := r0.range 1 32 (by omega) j v
    refine this ?_
    rw [← hv]
    congr 1
  have HBT : Hid (Try.prog.built 31 [(0, .int .u32 (r.1 : Int)), (1, .agg (va 32 (iv .u8 (dF r.2))))] = some (rfC r)) := built_refC r.1 r.2
  go_enter Try.func10, Try.ntmps10
  go_wp2_with (first
    | (refine wpList_load_blk (by rfl) 25 _ (by rfl) (w.heap.size) (1) 32 (iv .u8 (dF r.2)) (by rfl) _ (by exact HR.out) Try.underlying25 rfl ndSize32 ?_; simp only [Act.put, List.setIfInBounds_toArray, List.set_cons_zero, List.set_cons_succ])
    | (refine nd_build2 (by rfl) 31 _ _ (by rfl) (.int .u32 (r.1 : Int)) (.agg (va 32 (iv .u8 (dF r.2)))) (by rfl) (by rfl) (rfC r) (by exact HBT.out) ?_; simp only [Act.put, List.setIfInBounds_toArray, List.set_cons_zero, List.set_cons_succ])
    | (refine wpList_store_row (by rfl) 31 _ _ (by rfl) (w.heap.size + 1) (rfC r) (by rfl) (by rfl) 31 _ (by exact r1) (slSizeRef.trans (by rw [rfC_size])) (by simp only [rfC_size]) (rfC_all _) ?_; simp only [Act.put, List.setIfInBounds_toArray, List.set_cons_zero, List.set_cons_succ])
    | fail)
  try simp only [Exit.inBlock, Exit.then]
  refine bodyPost_ret (results_cell_row Try.results10 _ _ (w.heap.size + 1) 31 (rfC r) (0, 0) _ rfl (r1.set _) Try.underlying31 rfl (slSizeRef.trans (by rw [rfC_size]))) rfl ?_
  exact ⟨rfl, below_setRow hb (by omega) _⟩
end Go.Proofs.Ytednfpponkaelaa

namespace Go.Proofs.Ytednfpponkaelaa
open Go Go.RowKit
set_option linter.unusedSimpArgs false
set_option linter.unusedVariables false

/-- a node's block, byte by byte -/
def nodeB (l : Nat) (K : Nat → Rf) : Nat → Nat := fun j => if j < 8 then (if j = 0 then 110 else if j = 1 then 111 else if j = 2 then 100 else if j = 3 then 101 else if j = 4 then l else 0) else if j < 152 then encR (K ((j - 8) / 36)) ((j - 8) % 36) else 0
theorem nodeB_lt (l : Nat) (hl : l < 256) (K : Nat → Rf) (hK : ∀ i, i < 4 → okD (K i).2) (j : Nat) : nodeB l K j < 256 := by
  unfold nodeB
  split
  · repeat' split
    all_goals omega
  · split
    · exact encR_lt _ (hK _ (by omega)) _ (Nat.mod_lt _ (by decide))
    · omega
theorem nodeB_kid (l : Nat) (K : Nat → Rf) (i j : Nat) (hi : i < 4) (hj : j < 36) : nodeB l K (8 + 36 * i + j) = encR (K i) j := by
  unfold nodeB
  rw [if_neg (by omega), if_pos (by omega), show (8 + 36 * i + j - 8) / 36 = i by omega, show (8 + 36 * i + j - 8) % 36 = j by omega]
theorem nodeB_head (l : Nat) (h1 : 1 ≤ l) (h6 : l ≤ 6) (K : Nat → Rf) : ((⟨#[110, 111, 100, 101]⟩ : ByteArray) ++ strN (fun _ => l) 1) ++ (⟨#[0, 0, 0]⟩ : ByteArray) = strN (nodeB l K) 8 := by
  have h : l = 1 ∨ l = 2 ∨ l = 3 ∨ l = 4 ∨ l = 5 ∨ l = 6 := by omega
  rcases h with rfl | rfl | rfl | rfl | rfl | rfl <;> rfl
theorem nodeB_step (l : Nat) (hl : l < 256) (K : Nat → Rf) (hK : ∀ i, i < 4 → okD (K i).2) (k : Nat) (hk : k < 4) : strN (nodeB l K) (8 + 36 * k) ++ strN (encR (K k)) 36 = strN (nodeB l K) (8 + 36 * (k + 1)) := by
  have e := strN_append (nodeB l K) (8 + 36 * k) 36 fun j _ => nodeB_lt l hl K hK j
  rw [strN_congr (f := fun j => nodeB l K (8 + 36 * k + j)) (g := encR (K k)) fun j hj => nodeB_kid l K k j hk hj] at e
  rw [e]
  congr 1
theorem run_index_kid (t te : TypeId) (ht : Try.prog.underlying t = some (.array 4 te)) (u : TypeDesc) (hu : Try.prog.underlying te = some u) (hd : u.isRow = true) (hs : (Try.prog.info? te).map (·.size) = some 33) (K : Nat → Rf) (k : Nat) (hk : k < 4) (w : World) : (Instr.index t (.agg (kdC K)) (.int .i64 (k : Int))).run Try.prog w = .ok (.agg (rfC (K k))) w := by
  have hp := part_agg te 33 u hu hd hs (kdC K) (rfC (K k)) (k * 33) (kd_extract K k hk) w
  have hz := size_at te 33 hs w
  have h1 : (k : Int) < 4 := by omega
  simp [Instr.index, asIntOf, run_underlying ht, h1, hz, hp]
  intro h
  omega
set_option maxRecDepth 100000 in
set_option maxHeartbeats 4000000 in
theorem block_level (l : Int) (hl : l < 1 ∨ 6 < l) (K : Nat → Rf) (w : World) : Calls Try.prog 15 #[.agg (ndC l K)] w fun e w' => e = .returned (.tuple #[bkV fun _ => 0, .int .i64 1]) ∧ Below w.heap.size w w' := by
  unfold bkV
  have hz := zero_bk
  have hz8 := zero_ref
  have r0 : Blk ((w.alloc (.cells (ndC l K) 47)).alloc (.cells (va 256 (iv .u8 fun _ => 0)) 49)) w.heap.size 47 (va 133 (ndF l K)) := (Blk.new _ _ _).alloc _
  have r1 : Blk ((w.alloc (.cells (ndC l K) 47)).alloc (.cells (va 256 (iv .u8 fun _ => 0)) 49)) (w.heap.size + 1) 49 (va 256 (iv .u8 fun _ => 0)) := Blk.new1 _ _ _ _
  have hb : Below w.heap.size w ((w.alloc (.cells (ndC l K) 47)).alloc (.cells (va 256 (iv .u8 fun _ => 0)) 49)) := below_new2 _ _ _
  have hsz : ((w.alloc (.cells (ndC l K) 47)).alloc (.cells (va 256 (iv .u8 fun _ => 0)) 49)).heap.size = w.heap.size + 2 := by simp
  have x0 : ((w.alloc (.cells (ndC l K) 47)).alloc (.cells (va 256 (iv .u8 fun _ => 0)) 49)).cell? ⟨w.heap.size, 0, none⟩ = some (.int .i64 l) := by
    rw [r0.cell]
    exact va_at (ndF l K) (by decide)
  rcases hl with hl | hl
  · go_enter Try.func15, Try.ntmps15
    go_wp2_with (first
      | (refine wpList_store_row (by rfl) 49 _ _ (by rfl) (w.heap.size + 1) (va 256 (iv .u8 (fun _ => 0))) (by rfl) (by rfl) 49 (_) (by exact r1) (sizeBk.trans (by rw [va_size])) (by simp only [va_size]) (iv_one _ _ _) ?_; simp only [Act.put, List.setIfInBounds_toArray, List.set_cons_zero, List.set_cons_succ])
      | fail)
    try simp only [Exit.inBlock, Exit.then]
    refine bodyPost_ret (results_row2 Try.results15 _ _ (w.heap.size + 1) 49 (va 256 (iv .u8 (fun _ => 0))) (0, 0) _ rfl (r1.set _) Try.underlying49 rfl (sizeBk.trans (by rw [va_size]))) rfl ?_
    exact ⟨rfl, below_setRow hb (by omega) _⟩
  · go_enter Try.func15, Try.ntmps15
    go_wp2_with (first
      | (refine wpList_store_row (by rfl) 49 _ _ (by rfl) (w.heap.size + 1) (va 256 (iv .u8 (fun _ => 0))) (by rfl) (by rfl) 49 (_) (by exact r1) (sizeBk.trans (by rw [va_size])) (by simp only [va_size]) (iv_one _ _ _) ?_; simp only [Act.put, List.setIfInBounds_toArray, List.set_cons_zero, List.set_cons_succ])
      | fail)
    try simp only [Exit.inBlock, Exit.then]
    refine bodyPost_ret (results_row2 Try.results15 _ _ (w.heap.size + 1) 49 (va 256 (iv .u8 (fun _ => 0))) (0, 0) _ rfl (r1.set _) Try.underlying49 rfl (sizeBk.trans (by rw [va_size]))) rfl ?_
    exact ⟨rfl, below_setRow hb (by omega) _⟩
/-- what Block answers -/
def ndOk (l : Int) (K : Nat → Rf) : Bool := decide (1 ≤ l) && decide (l ≤ 6) && (List.range 4).all fun i => rOk (K i)
def blkF (l : Int) (K : Nat → Rf) : Nat → Nat := if ndOk l K then nodeB l.toNat K else fun _ => 0
set_option maxRecDepth 100000 in
set_option maxHeartbeats 4000000 in
theorem block_in (l : Nat) (h1 : 1 ≤ l) (h6 : l ≤ 6) (K : Nat → Rf) (hK : ∀ i, i < 4 → okD (K i).2) (X : Nat → Nat) (Y : Int) (HXY : Hid ((X, Y) = if ndOk l K then (nodeB l K, (0 : Int)) else (fun _ => 0, 1))) (w : World) : Calls Try.prog 15 #[.agg (ndC (l : Int) K)] w fun e w' => e = .returned (.tuple #[bkV X, .int .i64 Y]) ∧ Below w.heap.size w w' := by
  unfold bkV
  have hz := zero_bk
  have hz8 := zero_ref
  have r0 : Blk ((w.alloc (.cells (ndC (l : Int) K) 47)).alloc (.cells (va 256 (iv .u8 fun _ => 0)) 49)) w.heap.size 47 (va 133 (ndF (l : Int) K)) := (Blk.new _ _ _).alloc _
  have r1 : Blk ((w.alloc (.cells (ndC (l : Int) K) 47)).alloc (.cells (va 256 (iv .u8 fun _ => 0)) 49)) (w.heap.size + 1) 49 (va 256 (iv .u8 fun _ => 0)) := Blk.new1 _ _ _ _
  have hb : Below w.heap.size w ((w.alloc (.cells (ndC (l : Int) K) 47)).alloc (.cells (va 256 (iv .u8 fun _ => 0)) 49)) := below_new2 _ _ _
  have hsz : ((w.alloc (.cells (ndC (l : Int) K) 47)).alloc (.cells (va 256 (iv .u8 fun _ => 0)) 49)).heap.size = w.heap.size + 2 := by simp
  have x0 : ((w.alloc (.cells (ndC (l : Int) K) 47)).alloc (.cells (va 256 (iv .u8 fun _ => 0)) 49)).cell? ⟨w.heap.size, 0, none⟩ = some (.int .i64 (l : Int)) := by
    rw [r0.cell]
    exact va_at (ndF (l : Int) K) (by decide)
  have HKD : Hid ((((w.alloc (.cells (ndC (l : Int) K) 47)).alloc (.cells (va 256 (iv .u8 fun _ => 0)) 49)).alloc (.cells #[.int .u8 (l : Int)] 5)).rangeAt w.heap.size 1 ((List.range 132).map (kdF K))) := fun j v hv => by
    have := (r0.alloc (.cells #[.int .u8 (l : Int)] 5)).range 1 132 (by omega) j v
    refine this ?_
    rw [← hv]
    congr 1
  have hbt : ∀ W : World, True := fun _ => trivial
  have e8 : (l : Int) % 256 = l := by omega
  have hc : (convert 59 9 (.slice (some ⟨w.heap.size + 2, 0, none⟩) 1 1)).run Try.prog (((w.alloc (.cells (ndC (l : Int) K) 47)).alloc (.cells (va 256 (iv .u8 fun _ => 0)) 49)).alloc (.cells #[.int .u8 (l : Int)] 5)) = .ok (.string (strN (fun _ => l) 1)) (((w.alloc (.cells (ndC (l : Int) K) 47)).alloc (.cells (va 256 (iv .u8 fun _ => 0)) 49)).alloc (.cells #[.int .u8 (l : Int)] 5)) := by
    have q : Blk (((w.alloc (.cells (ndC (l : Int) K) 47)).alloc (.cells (va 256 (iv .u8 fun _ => 0)) 49)).alloc (.cells #[.int .u8 (l : Int)] 5)) (w.heap.size + 2) 5 (va 1 (iv .u8 fun _ => l)) := Blk.new2 _ _ _ _ _
    exact run_bytes_text (P := Try.prog) _ 59 5 9 Try.underlying59 Try.underlying5 Try.underlying9 q 0 1 1 (by omega)
  have hh := nodeB_head l h1 h6 K
  have z1 : (strN (fun _ => l) 1).size = 1 := strN_size _ _
  go_enter Try.func15, Try.ntmps15
  go_wp2_with (first
    | (refine wpList_load_blk (by rfl) 45 _ (by rfl) (w.heap.size) (1) 132 (kdF K) (by rfl) _ (by exact HKD.out) Try.underlying45 rfl sizeKid ?_; simp only [Act.put, List.setIfInBounds_toArray, List.set_cons_zero, List.set_cons_succ])
    | fail)
  clear hc
  have q1 : Blk (((w.alloc (.cells (ndC (l : Int) K) 47)).alloc (.cells (va 256 (iv .u8 fun _ => 0)) 49)).alloc (.cells #[.int .u8 (l : Int)] 5)) (w.heap.size + 1) 49 (va 256 (iv .u8 fun _ => 0)) := r1.alloc _
  have hb3 : Below w.heap.size w (((w.alloc (.cells (ndC (l : Int) K) 47)).alloc (.cells (va 256 (iv .u8 fun _ => 0)) 49)).alloc (.cells #[.int .u8 (l : Int)] 5)) := hb.alloc (by rw [hsz]; omega) _
  have hs3 : (((w.alloc (.cells (ndC (l : Int) K) 47)).alloc (.cells (va 256 (iv .u8 fun _ => 0)) 49)).alloc (.cells #[.int .u8 (l : Int)] 5)).heap.size = w.heap.size + 3 := by simp
  clear r0 r1 hb x0 HKD hsz
  generalize (((w.alloc (.cells (ndC (l : Int) K) 47)).alloc (.cells (va 256 (iv .u8 fun _ => 0)) 49)).alloc (.cells #[.int .u8 (l : Int)] 5)) = W at *
  go_loopw [4, 25] (fun t i wr => ∃ k : Nat, k ≤ 4 ∧ t = .string (strN (nodeB l K) (8 + 36 * k)) ∧ i = .int .i64 (k : Int) ∧ (∀ i, i < k → rOk (K i) = true) ∧ Blk wr (w.heap.size + 1) 49 (va 256 (iv .u8 fun _ => 0)) ∧ Below w.heap.size w wr ∧ w.heap.size + 3 ≤ wr.heap.size) (fun _ i _ => 4 - (intOf i).toNat)
  case atStart => exact ⟨0, by omega, rfl, rfl, fun i hi => absurd hi (by omega), q1, hb3, by omega⟩
  case round =>
    clear q1 hb3 hs3
    obtain ⟨k, hk, rfl, rfl, hR, q, hb, hs⟩ := hrel
    by_cases hlt : k < 4
    · have hx : ∀ W, (Instr.index 45 (.agg (va 132 (kdF K))) (.int .i64 (k : Int))).run Try.prog W = .ok (.agg (rfC (K k))) W := run_index_kid 45 31 Try.underlying45 _ Try.underlying31 rfl slSizeRef K k hlt
      have k1 : (k : Int) < 4 := by omega
      have HS : Hid (strN (nodeB l K) (8 + 36 * k) ++ strN (encR (K k)) 36 = strN (nodeB l K) (8 + 36 * (k + 1))) := nodeB_step l (by omega) K hK k hlt
      have s1 : (strN (nodeB l K) (8 + 36 * k)).size = 8 + 36 * k := strN_size _ _
      have s2 : (strN (encR (K k)) 36).size = 36 := strN_size _ _
      have HN : Hid (strN (nodeB l K) (8 + 36 * k) ++ strN (encR (K k)) 36 = strN (nodeB l K) (8 + 36 * (k + 1))) := HS.out
      have p1 : Blk (wr.alloc (.cells (rfC rf0) 31)) wr.heap.size 31 (rfC rf0) := Blk.new _ _ _
      have q1 : Blk (wr.alloc (.cells (rfC rf0) 31)) (w.heap.size + 1) 49 (va 256 (iv .u8 fun _ => 0)) := q.alloc _
      have hb1 : Below w.heap.size w (wr.alloc (.cells (rfC rf0) 31)) := hb.alloc (by omega) _
      have hs1 : (wr.alloc (.cells (rfC rf0) 31)).heap.size = wr.heap.size + 1 := by simp
      have HRT : Hid (∀ w, Calls Try.prog 22 #[.agg (rfC (K k))] w fun e w' => e = .returned (.bool (rOk (K k))) ∧ Below w.heap.size w w') := right_any (K k)
      have HEN : Hid (∀ w, Calls Try.prog 23 #[.agg (rfC (K k))] w fun e w' => e = .returned (.string (strN (encR (K k)) 36)) ∧ Below w.heap.size w w') := encR_any (K k) (hK k hlt)
      have HRK : Hid (∀ b, rOk (K k) = b → b = true → ∀ i, i < k + 1 → rOk (K i) = true) := fun b h1 h2 i hi => by
        rcases Nat.lt_or_ge i k with h | h
        · exact hR i h
        · rw [show i = k by omega, h1, h2]
      have HRF : Hid (rOk (K k) = false → ndOk l K = false) := fun h => by
        have : ((List.range 4).all fun i => rOk (K i)) = false := by
          rw [List.all_eq_false]
          exact ⟨k, by simpa using hlt, by simp [h]⟩
        unfold ndOk
        rw [this, Bool.and_false]
      have HRS : Hid ((rfC (K k)).size = 33) := rfC_size _
      have HRA : Hid ((rfC (K k)).all (·.oneCell') = true) := rfC_all _
      generalize hrb : rOk (K k) = b at *
      generalize strN (encR (K k)) 36 = t2 at *
      generalize strN (nodeB l K) (8 + 36 * k) = t1 at *
      generalize rfC (K k) = rc at *
      have hrs : rc.size = 33 := HRS.out
      go_wp2_with (first
        | (refine wpList_store_row (by rfl) 31 _ _ (by rfl) (wr.heap.size) (rc) (by rfl) (by rfl) 31 (rfC rf0) (by exact p1) (slSizeRef.trans (by rw [hrs])) (by rw [hrs, rfC_size]) (HRA.out) ?_; simp only [Act.put, List.setIfInBounds_toArray, List.set_cons_zero, List.set_cons_succ])
        | (refine wpList_load_rowg (by rfl) 31 _ (by rfl) (wr.heap.size) (by rfl) 31 (rc) (0, 0) _ (by exact p1.set _) Try.underlying31 (by rfl) (slSizeRef.trans (by rw [hrs])) ?_; simp only [Act.put, List.setIfInBounds_toArray, List.set_cons_zero, List.set_cons_succ])
        | fail)
      have p2 : Blk ((wr.alloc (.cells (rfC rf0) 31)).setRow wr.heap.size rc) wr.heap.size 31 rc := p1.set _
      have q2 : Blk ((wr.alloc (.cells (rfC rf0) 31)).setRow wr.heap.size rc) (w.heap.size + 1) 49 (va 256 (iv .u8 fun _ => 0)) := q1.other _ (by omega)
      have hb2 : Below w.heap.size w ((wr.alloc (.cells (rfC rf0) 31)).setRow wr.heap.size rc) := below_setRow hb1 (by omega) _
      have hs2 : ((wr.alloc (.cells (rfC rf0) 31)).setRow wr.heap.size rc).heap.size = wr.heap.size + 1 := by simp
      clear p1 q1 hb1 hs1
      generalize ((wr.alloc (.cells (rfC rf0) 31)).setRow wr.heap.size rc) = w2 at *
      refine (HRT.out w2).mono ?_
      rintro e w3 ⟨rfl, hb3⟩
      have hs3 := hb3.size
      have p3 : Blk w3 wr.heap.size 31 rc := p2.below hb3 (by omega)
      have q3 : Blk w3 (w.heap.size + 1) 49 (va 256 (iv .u8 fun _ => 0)) := q2.below hb3 (by omega)
      have hb4 : Below w.heap.size w w3 := hb2.trans (hb3.mono (by omega))
      clear p2 q2 hb2 hb3 HRT
      cases b
      · go_wp2_with (first
          | (refine wpList_store_row (by rfl) 49 _ _ (by rfl) (w.heap.size + 1) (va 256 (iv .u8 (fun _ => 0))) (by rfl) (by rfl) 49 (_) (by exact q3) (sizeBk.trans (by rw [va_size])) (by simp only [va_size]) (iv_one _ _ _) ?_; simp only [Act.put, List.setIfInBounds_toArray, List.set_cons_zero, List.set_cons_succ])
          | fail)
        try simp only [Exit.inBlock, Exit.then]
        refine bodyPost_ret (results_row2 Try.results15 _ _ (w.heap.size + 1) 49 (va 256 (iv .u8 fun _ => 0)) (0, 0) _ rfl (q3.set _) Try.underlying49 rfl (sizeBk.trans (by rw [va_size]))) rfl ?_
        have e : ndOk (l : Int) K = false := HRF.out (by first | rfl | trivial)
        refine ⟨?_, below_setRow hb4 (by omega) _⟩
        have hxy := HXY.out
        rw [e] at hxy
        injection hxy with hx hy
        subst hx hy
        rfl
      · go_wp2_with (first
          | (refine wpList_load_rowg (by rfl) 31 _ (by rfl) (wr.heap.size) (by rfl) 31 (rc) (0, 0) _ (by exact p3) Try.underlying31 (by rfl) (slSizeRef.trans (by rw [hrs])) ?_; simp only [Act.put, List.setIfInBounds_toArray, List.set_cons_zero, List.set_cons_succ])
          | fail)
        refine (HEN.out w3).mono ?_
        rintro e w4 ⟨rfl, hb5⟩
        have hs5 := hb5.size
        have q4 : Blk w4 (w.heap.size + 1) 49 (va 256 (iv .u8 fun _ => 0)) := q3.below hb5 (by omega)
        have hb6 : Below w.heap.size w w4 := hb4.trans (hb5.mono (by omega))
        clear p3 q3 hb4 hb5 HEN
        go_wp2_with fail
        go_roundw
        case rel => exact ⟨k + 1, by omega, by rw [← HS.out], by simp, HRK.out true rfl rfl, q4, hb6, by omega⟩
        case measure => simp [intOf]; omega
    · have e : k = 4 := by omega
      subst e
      have HO : Hid (ndOk l K = true) := by
        show ndOk l K = true
        unfold ndOk
        rw [Bool.and_eq_true, Bool.and_eq_true, decide_eq_true_eq, decide_eq_true_eq, List.all_eq_true]
        exact ⟨⟨by omega, by omega⟩, fun i hi => hR i (by simpa using hi)⟩
      have HF : Hid (∀ w, Calls Try.prog 24 #[.string (strN (nodeB l K) (8 + 36 * 4))] w fun e w' => e = .returned (.tuple #[.agg (va 256 (iv .u8 (nodeB l K))), .int .i64 0]) ∧ Below w.heap.size w w') := fun w => by
        have hsz : (strN (nodeB l K) (8 + 36 * 4)).size = 152 := strN_size _ _
        have := blockOf_fit (strN (nodeB l K) (8 + 36 * 4)) (by omega) w
        have e : bkV (tbyte (strN (nodeB l K) (8 + 36 * 4))) = .agg (va 256 (iv .u8 (nodeB l K))) := bkV_congr fun i hi => by
          by_cases h : i < 152
          · exact strN_at _ _ i h (nodeB_lt l (by omega) K hK i)
          · rw [tbyte_out _ _ (by omega)]
            unfold nodeB
            rw [if_neg (by omega), if_neg h]
        rw [e] at this
        exact this
      generalize strN (nodeB l K) (8 + 36 * 4) = t1 at *
      go_wp2_with fail
      refine (HF.out wr).mono ?_
      rintro e w4 ⟨rfl, hb5⟩
      have q4 : Blk w4 (w.heap.size + 1) 49 (va 256 (iv .u8 fun _ => 0)) := q.below hb5 (by omega)
      have hb6 : Below w.heap.size w w4 := hb.trans (hb5.mono (by omega))
      go_wp2_with (first
        | (refine wpList_store_row (by rfl) 49 _ _ (by rfl) (w.heap.size + 1) (va 256 (iv .u8 (nodeB l K))) (by rfl) (by rfl) 49 (_) (by exact q4) (sizeBk.trans (by rw [va_size])) (by simp only [va_size]) (iv_one _ _ _) ?_; simp only [Act.put, List.setIfInBounds_toArray, List.set_cons_zero, List.set_cons_succ])
        | fail)
      try simp only [Exit.inBlock, Exit.then]
      refine bodyPost_ret (results_row2 Try.results15 _ _ (w.heap.size + 1) 49 (va 256 (iv .u8 (nodeB l K))) (0, 0) _ rfl (q4.set _) Try.underlying49 rfl (sizeBk.trans (by rw [va_size]))) rfl ?_
      refine ⟨?_, below_setRow hb6 (by omega) _⟩
      have hxy := HXY.out
      rw [HO.out] at hxy
      injection hxy with hx hy
      subst hx hy
      rfl
theorem block_any (l : Int) (K : Nat → Rf) (hK : ∀ i, i < 4 → okD (K i).2) (w : World) : Calls Try.prog 15 #[.agg (ndC l K)] w fun e w' => e = .returned (.tuple #[bkV (blkF l K), .int .i64 (if ndOk l K then 0 else 1)]) ∧ Below w.heap.size w w' := by
  by_cases h : l < 1 ∨ 6 < l
  · have e : ndOk l K = false := by
      unfold ndOk
      rcases h with h | h
      · rw [decide_eq_false (p := 1 ≤ l) (by omega), Bool.false_and, Bool.false_and]
      · rw [decide_eq_false (p := l ≤ 6) (by omega), Bool.and_false, Bool.false_and]
    unfold blkF
    rw [e]
    exact block_level l h K w
  · obtain ⟨n, rfl⟩ : ∃ n : Nat, l = (n : Int) := ⟨l.toNat, by omega⟩
    refine block_in n (by omega) (by omega) K hK (blkF n K) (if ndOk n K then 0 else 1) ?_ w
    show (_, _) = _
    unfold blkF
    cases ndOk n K
    · rfl
    · rfl
end Go.Proofs.Ytednfpponkaelaa
