/- A block of a quiet disk read: the program's contract of Read. -/
import Derived.Test.YtlmbokfgogkbmaaHDkLog
import Derived.Handy

namespace Go.Proofs.Ytlmbokfgogkbmaa
open Go Go.RowKit
set_option linter.unusedSimpArgs false
set_option linter.unusedVariables false

/-- no plan, these cuts, power on or off -/
structure QuietC (cv : Value) (d0 : Bool) (q : QD) (k : Nat) : Prop where
  dd : q.dd = d0
  pl : q.pl = .map none
  cu : q.cu = cv
  ev0 : 0 ≤ q.ev
  ev1 : q.ev ≤ (k : Int)
  ones : ∀ u ∈ q.xs, u.oneCell' = true
/-- no plan, no cuts, power on -/
abbrev Quiet : QD → Nat → Prop := QuietC (.slice none 0 0) false
theorem QuietC.mono {cv : Value} {d0 : Bool} {q : QD} {k k' : Nat} (h : QuietC cv d0 q k) (hk : k ≤ k') : QuietC cv d0 q k' := ⟨h.dd, h.pl, h.cu, h.ev0, by have := h.ev1; omega, h.ones⟩
theorem keys_new {k : Nat} {l : List ((Int × Int) × Vector Nat 256)} (h : ∀ p ∈ l, p.1.1 ≤ (k : Int)) (a : Int) : findIn (((k + 1 : Nat) : Int), a) l = none := by
  induction l with
  | nil => rfl
  | cons p l ih =>
    simp only [findIn]
    rw [if_neg (fun e => by
      have := h p (by simp)
      rw [← e] at this
      simp at this
      omega)]
    exact ih fun x hx => h x (by simp [hx])
section
variable {B g N k lg : Nat} {F : Nat → Nat} {q : QD}
set_option maxRecDepth 100000 in
set_option maxHeartbeats 8000000 in
theorem write_ge {cv : Value} {m : Nat} (hq : QuietC cv false q m) (er : Int) (d1 : Bool) (at0 : Nat) (b : Nat → Nat) (hat : at0 < N) (hN : N ≤ 8192) (hk : k < 549755813888) (hlg : lg < 137438953472) (w : World) (hnext : ∀ w0, DiskQ w0 B g N F (k + 1) lg q → Moved g N q q w w0 → Calls Try.prog 41 #[.pointer (some ⟨g, 0, none⟩)] w0 fun e w' => e = .returned (.tuple #[.bool true, .int .i64 er]) ∧ DiskQ w' B g N F (k + 1) lg { q with ev := q.ev + 1, dd := d1 } ∧ Moved g N q { q with ev := q.ev + 1, dd := d1 } w0 w') (hB : B ≤ w.heap.size) (h : DiskQ w B g N F k lg q) :
    Calls Try.prog 17 #[.pointer (some ⟨g, 0, none⟩), .int .i64 (at0 : Int), .agg (va 256 (iv .u8 b))] w fun e w' => e = .returned (.int .i64 er) ∧ ∃ q', DiskQ w' B g N (putAt F (at0 * 256) 256 b) (k + 1) (lg + 1) q' ∧ QuietC cv d1 q' (m + 1) ∧ Moved g N q q' w w' ∧ q'.ev = q.ev + 1 := by
  have hNx : Hid (∀ w0, DiskQ w0 B g N F (k + 1) lg q → Moved g N q q w w0 → Calls Try.prog 41 #[.pointer (some ⟨g, 0, none⟩)] w0 fun e w' => e = .returned (.tuple #[.bool true, .int .i64 er]) ∧ DiskQ w' B g N F (k + 1) lg { q with ev := q.ev + 1, dd := d1 } ∧ Moved g N q { q with ev := q.ev + 1, dd := d1 } w0 w') := hnext
  clear hnext
  have hz := zero_bk
  have hbr := build_raw 2 (at0 : Int) b
  obtain ⟨i0, hi, hz0, hz1, hz2⟩ := info_parts infoRaw
  have j0 : (0 : Int) ≤ (at0 : Int) := by omega
  have j1 : (at0 : Int) < (N : Int) := by omega
  have HQt : Hid (QuietC cv false q m) := hq
  have HKN : Hid (findIn (((k + 1 : Nat) : Int), (at0 : Int)) q.l = none) := keys_new h.keys _
  have HSH : Hid (∀ j, (q.G.getD j []).length < k + 1) := fun j => Nat.lt_succ_of_le (h.short j)
  have r1 : Blk (w.alloc (.cells (va 256 (iv .u8 b)) 60)) w.heap.size 60 (va 256 (iv .u8 b)) := Blk.new _ _ _
  have hb1 : Below w.heap.size w (w.alloc (.cells (va 256 (iv .u8 b)) 60)) := below_new1 _ _
  have HQ1 : Hid (DiskQ (w.alloc (.cells (va 256 (iv .u8 b)) 60)) B g N F k lg q) := h.below hb1
  have HM1 : Hid (Moved g N q q w (w.alloc (.cells (va 256 (iv .u8 b)) 60))) := .of_below hb1
  have HF : Hid (∀ z, foot g N q z → z < w.heap.size) := fun z hz => (h.foots z hz).2
  have HW : Hid (B ≤ w.heap.size) := hB
  clear h hb1 hB hq
  go_enter Try.func17, Try.ntmps17
  go_wp2_with fail
  have hs1 : w.heap.size < (w.alloc (.cells (va 256 (iv .u8 b)) 60)).heap.size := r1.lt
  generalize (w.alloc (.cells (va 256 (iv .u8 b)) 60)) = w1 at *
  have HBX : Hid (∀ q' v v', Moved g N q q' w1 v → Turns (foot g N q') v v' → Blk v w.heap.size 60 (va 256 (iv .u8 b)) → Blk v' w.heap.size 60 (va 256 (iv .u8 b))) := fun q' v v' h1 h2 h3 => (h2.block _ h3.lt fun e => by
    rcases h1.2 _ e with e | e
    · have := HF.out _ e
      omega
    · omega).trans h3
  refine (begin_q HQt.out.dd HQt.out.pl at0 hat (by omega) w1 HQ1.out).mono ?_
  rintro e w2 ⟨rfl, hq2, hm2⟩
  have HQ2 : Hid (DiskQ w2 B g N F (k + 1) lg q) := hq2
  have HM2 : Hid (Moved g N q q w1 w2) := hm2
  have r2 : Blk w2 w.heap.size 60 (va 256 (iv .u8 b)) := HBX.out q w1 w2 (.of_below (Below.refl _ _)) hm2.1 r1
  clear hq2 hm2 HQ1 r1
  go_wp2_with fail
  refine (hNx.out w2 HQ2.out (HM1.out.trans HM2.out)).mono ?_
  rintro e w3 ⟨rfl, hq3, hm3⟩
  obtain ⟨q3, hq3e⟩ : ∃ q3 : QD, q3 = { q with ev := q.ev + 1, dd := d1 } := ⟨_, rfl⟩
  have HE3 : Hid (q3 = { q with ev := q.ev + 1, dd := d1 }) := hq3e
  have HKN3 : Hid (findIn (((k + 1 : Nat) : Int), (at0 : Int)) q3.l = none) := by rw [hq3e]; exact HKN.out
  have HSH3 : Hid (∀ j, (q3.G.getD j []).length < k + 1) := by rw [hq3e]; exact HSH.out
  have HQ3 : Hid (DiskQ w3 B g N F (k + 1) lg q3) := by rw [hq3e]; exact hq3
  have HM3 : Hid (Moved g N q q3 w1 w3) := by rw [hq3e]; exact HM2.out.trans hm3
  have HQt3 : Hid (QuietC cv d1 q3 (m + 1)) := by
    rw [hq3e]
    obtain ⟨a1, a2, a3, a4, a5, a6⟩ := HQt.out
    exact ⟨rfl, a2, a3, by show 0 ≤ q.ev + 1; omega, by show q.ev + 1 ≤ ((m + 1 : Nat) : Int); omega, a6⟩
  have HV3 : Hid (q3.ev = q.ev + 1) := by rw [hq3e]; rfl
  have r3 : Blk w3 w.heap.size 60 (va 256 (iv .u8 b)) := HBX.out q w2 w3 HM2.out hm3.1 r2
  clear hq3 hm3 HQ2 r2 hq3e HE3 HKN HSH HM2
  go_wp2_with (first
    | (refine wpList_load_row (by rfl) 60 _ (by rfl) (w.heap.size) (by rfl) 60 (va 256 (iv .u8 b)) (0, 0) _ r3 Try.underlying60 (by rfl) (sizeBk.trans (by rw [va_size])) ?_; simp only [Act.put, List.setIfInBounds_toArray, List.set_cons_zero, List.set_cons_succ])
    | fail)
  refine (lay_q at0 b hat hN HKN3.out HSH3.out (by omega) w3 (Nat.le_trans HW.out (Nat.le_trans (Nat.le_of_lt hs1) HM3.out.1.size)) HQ3.out).mono ?_
  rintro e w4 ⟨rfl, l4, G4, ss4, hq4, hm4⟩
  obtain ⟨q4, hq4e⟩ : ∃ q4 : QD, q4 = { q3 with l := l4, G := G4, ss := ss4 } := ⟨_, rfl⟩
  rw [← hq4e] at hq4 hm4
  have HQ4 : Hid (DiskQ w4 B g N (putAt F (at0 * 256) 256 b) (k + 1) lg q4) := hq4
  have HM4 : Hid (Moved g N q q4 w1 w4) := HM3.out.trans hm4
  have r4 : Blk w4 w.heap.size 60 (va 256 (iv .u8 b)) := HBX.out q3 w3 w4 HM3.out hm4.1 r3
  have HQt4 : Hid (QuietC cv d1 q4 (m + 1)) := by
    rw [hq4e]
    obtain ⟨a1, a2, a3, a4, a5, a6⟩ := HQt3.out
    exact ⟨a1, a2, a3, a4, a5, a6⟩
  have HV4 : Hid (q4.ev = q.ev + 1) := by rw [hq4e]; exact HV3.out
  clear hq4e hq4 hm4 HV3 HQ3 HM3 r3 HQt3 HKN3 HSH3
  obtain ⟨gw, cw, hwv, hgw, hgwl⟩ := kown_form HQ4.out.wear (show 0 < N by omega)
  obtain ⟨x0, hx0⟩ := HQ4.out.ints at0 hat
  have c9 : w4.cell? ⟨g, 9, none⟩ = some (.slice (some ⟨gw, 0, none⟩) N cw) := by rw [HQ4.out.c, ← hwv]; rfl
  have hwr := HQ4.out.wear
  rw [hwv] at hwr
  have cw0 : w4.cell? ⟨gw, at0, none⟩ = some (.int .i64 x0) := by
    rw [hwr.cellAt (g := gw) at0 (by omega)]
    exact hx0
  have fw0 : w4.frozen? ⟨gw, at0, none⟩ = false := by
    rcases hwr.2 with ⟨hn, _⟩ | ⟨g', cap', cur, hv, _, hg, _⟩
    · cases hn
    · injection hv with hv1
      injection hv1 with hv1
      injection hv1 with hv1
      subst hv1
      exact Blk.frozen (show Blk w4 gw 3 cur from hg) at0
  have HWR : Hid (w4.ownsRow B 3 1 (.slice (some ⟨gw, 0, none⟩) N cw) N q4.ys) := hwr
  have HWV : Hid (q4.wv = .slice (some ⟨gw, 0, none⟩) N cw) := hwv
  clear hwr hwv hx0
  go_wp2_with fail
  have HQ5 : Hid (DiskQ (w4.setCell ⟨gw, at0, none⟩ (.int .i64 (wrap64 (x0 + 1)))) B g N (putAt F (at0 * 256) 256 b) (k + 1) lg { q4 with ys := q4.ys.set at0 (.int .i64 (wrap64 (x0 + 1))) }) := by
    have hys : q4.ys.length = N := by
      have := HWR.out.1
      omega
    refine HQ4.out.rewear ?_ (fun j hj => ?_) fun z hz => Deep.blk_setCell_other w4 ⟨gw, at0, none⟩ _ z fun e => hz ?_
    · rw [HWV.out]
      exact own_setCell HWR.out at0 hat _
    · by_cases hja : j = at0
      · subst hja
        exact ⟨wrap64 (x0 + 1), by simp [hys, hat]⟩
      · obtain ⟨y0, hy0⟩ := HQ4.out.ints j hj
        exact ⟨y0, by rw [List.getElem?_set_ne (Ne.symm hja)]; exact hy0⟩
    · rw [HWV.out, show z = gw from e]
      rfl
  have HM5 : Hid (Moved g N q { q4 with ys := q4.ys.set at0 (.int .i64 (wrap64 (x0 + 1))) } w1 (w4.setCell ⟨gw, at0, none⟩ (.int .i64 (wrap64 (x0 + 1))))) := by
    refine HM4.out.trans ⟨⟨rfl, rfl, rfl, by rw [Deep.nblk_setCell]; exact Nat.le_refl _, fun z hz hf => Deep.blk_setCell_other w4 ⟨gw, at0, none⟩ _ z fun e => hf ?_⟩, fun z hz => .inl hz⟩
    refine .inr (.inr (.inr (.inr (.inr (.inl ?_)))))
    rw [HWV.out, show z = gw from e]
    rfl
  have r5 : Blk (w4.setCell ⟨gw, at0, none⟩ (.int .i64 (wrap64 (x0 + 1)))) w.heap.size 60 (va 256 (iv .u8 b)) := r4.put_other _ _ fun e => own_ne HWR.out r4 (by decide) (by rw [e]; rfl)
  have HQt5 : Hid (QuietC cv d1 { q4 with ys := q4.ys.set at0 (.int .i64 (wrap64 (x0 + 1))) } (m + 1)) := by
    obtain ⟨a1, a2, a3, a4, a5, a6⟩ := HQt4.out
    exact ⟨a1, a2, a3, a4, a5, a6⟩
  have HV5 : Hid (({ q4 with ys := q4.ys.set at0 (.int .i64 (wrap64 (x0 + 1))) } : QD).ev = q.ev + 1) := HV4.out
  clear HV4 HQ4 HM4 r4 HQt4 HWR HWV c9 cw0 fw0
  generalize w4.setCell ⟨gw, at0, none⟩ (.int .i64 (wrap64 (x0 + 1))) = w5 at *
  generalize ({ q4 with ys := q4.ys.set at0 (.int .i64 (wrap64 (x0 + 1))) } : QD) = q5 at *
  have d8 : w5.cell? ⟨g, 8, none⟩ = some q5.lv := by rw [HQ5.out.c]; rfl
  refine wp_region_partsS (fun W => W.cell? ⟨g, 8, none⟩ = some q5.lv ∧ Blk W w.heap.size 60 (va 256 (iv .u8 b))) [([0, 1, 5], 2, true), ([], 3, true), ([], 4, true), ([], 6, false), ([], 7, false), ([], 8, false), ([], 9, false), ([], 10, false), ([], 11, false)] [] [12] (by kernel_rfl) (by kernel_rfl) ⟨d8, r5.drew⟩ (partsI_yield ?_)
  simp only [List.cons_append, List.nil_append, List.append_nil, List.filterMap_cons, List.filterMap_nil, List.getElem?_toArray, List.getElem?_cons_zero, List.getElem?_cons_succ]
  go_wp2_with fail
  refine ⟨rfl, _, .pointer (some ⟨g, 0, none⟩), rfl, Or.inl ⟨by rfl, fun W hW => by go_simp⟩, partsI_yield ?_⟩
  simp only [Act.put, List.setIfInBounds_toArray, List.set_cons_zero, List.set_cons_succ]
  simp only [List.cons_append, List.nil_append, List.append_nil, List.filterMap_cons, List.filterMap_nil, List.getElem?_toArray, List.getElem?_cons_zero, List.getElem?_cons_succ]
  go_wp2_with fail
  refine ⟨rfl, _, .pointer (some ⟨g, 8, none⟩), rfl, Or.inl ⟨by rfl, fun W hW => by go_simp⟩, partsI_yield ?_⟩
  simp only [Act.put, List.setIfInBounds_toArray, List.set_cons_zero, List.set_cons_succ]
  simp only [List.cons_append, List.nil_append, List.append_nil, List.filterMap_cons, List.filterMap_nil, List.getElem?_toArray, List.getElem?_cons_zero, List.getElem?_cons_succ]
  go_wp2_with fail
  refine ⟨rfl, _, q5.lv, rfl, Or.inl ⟨by rfl, fun W hW => by obtain ⟨hWa, hWb⟩ := hW; go_simp⟩, partsI_force ?_⟩
  simp only [Act.put, List.setIfInBounds_toArray, List.set_cons_zero, List.set_cons_succ]
  simp only [List.cons_append, List.nil_append, List.append_nil, List.filterMap_cons, List.filterMap_nil, List.getElem?_toArray, List.getElem?_cons_zero, List.getElem?_cons_succ]
  refine wpList_load_rowg (by rfl) 60 _ (by rfl) w.heap.size (by rfl) 60 (va 256 (iv .u8 b)) (0, 0) _ r5.drew Try.underlying60 (by rfl) (sizeBk.trans (by rw [va_size])) ?_
  simp only [Act.put, List.setIfInBounds_toArray, List.set_cons_zero, List.set_cons_succ]
  go_wp2_with fail
  refine ⟨rfl, ⟨d8, r5.drew⟩, partsI_force ?_⟩
  simp only [List.cons_append, List.nil_append, List.append_nil, List.filterMap_cons, List.filterMap_nil, List.getElem?_toArray, List.getElem?_cons_zero, List.getElem?_cons_succ]
  refine wpList_build3 rfl 106 _ _ _ rfl (.int .i64 2) (.int .i64 (at0 : Int)) (.agg (va 256 (iv .u8 b))) rfl rfl rfl (va 258 (rawF 2 (at0 : Int) b)) (built_raw 2 (at0 : Int) b) ?_

  simp only [Act.put, List.setIfInBounds_toArray, List.set_cons_zero, List.set_cons_succ]
  go_wp2_with fail
  refine ⟨rfl, ⟨d8, r5.drew⟩, partsI_force ?_⟩
  simp only [List.cons_append, List.nil_append, List.append_nil, List.filterMap_cons, List.filterMap_nil, List.getElem?_toArray, List.getElem?_cons_zero, List.getElem?_cons_succ]
  refine wpList_build1 rfl 94 106 _ rfl (va 258 (rawF 2 (at0 : Int) b)) rfl i0 (.agg (va 258 (rawF 0 0 fun _ => 0))) 258 Try.underlying94 hi hz0 hz1 (va_size _ _) (by decide) (by decide) ?_
  simp only [Act.put, List.setIfInBounds_toArray, List.set_cons_zero, List.set_cons_succ]
  go_wp2_with fail
  have r6 : Blk (w5.drew.alloc (.cells (va 258 (rawF 2 (at0 : Int) b)) 106)) w.heap.size 60 (va 256 (iv .u8 b)) := r5.drew.alloc _
  have d86 : (w5.drew.alloc (.cells (va 258 (rawF 2 (at0 : Int) b)) 106)).cell? ⟨g, 8, none⟩ = some q5.lv := by rw [(HQ5.out.cells.drew.alloc _).cell]; rfl
  refine ⟨rfl, ⟨d86, r6⟩, partsI_force ?_⟩
  simp only [List.cons_append, List.nil_append, List.append_nil, List.filterMap_cons, List.filterMap_nil, List.getElem?_toArray, List.getElem?_cons_zero, List.getElem?_cons_succ]
  have HOWN : Hid ((w5.drew.alloc (.cells (va 258 (rawF 2 (at0 : Int) b)) 106)).ownsRow B 106 258 q5.lv lg q5.xs) := World.ownsRow.alloc (w := w5.drew) HQ5.out.log _
  have HC : Hid (∀ j u, (va 258 (rawF 2 (at0 : Int) b)).toList[j]? = some u → (w5.drew.alloc (.cells (va 258 (rawF 2 (at0 : Int) b)) 106)).cell? ((⟨w5.drew.heap.size, 0, none⟩ : Addr).add j) = some u) := cells_new w5.drew _ _
  have HBB : Hid (B ≤ (w5.drew.alloc (.cells (va 258 (rawF 2 (at0 : Int) b)) 106)).heap.size) := by
    have h1 := HM5.out.1.size
    have h2 := HW.out
    show B ≤ _
    rw [show (w5.drew.alloc (.cells (va 258 (rawF 2 (at0 : Int) b)) 106)).heap.size = w5.heap.size + 1 by simp]
    omega
  refine wpList_append_own_at rfl _ _ 94 rfl B 106 i0 (.agg (va 258 (rawF 0 0 fun _ => 0))) 258 272 Try.underlying94 hi hz0 hz1 hz2 (va_size _ _) (by decide) _ _ _ rfl HOWN.out ⟨w5.drew.heap.size, 0, none⟩ 1 1 (va 258 (rawF 2 (at0 : Int) b)).toList rfl (by rw [Array.length_toList, va_size]) HC.out (raw_one _ _ _) (by unfold maxLen; omega) (by omega) HBB.out ?_
  intro v' w6 hrow hgr hsb
  obtain ⟨xa, xc, hxe⟩ := kown_slice hrow
  subst hxe
  obtain ⟨hB6, hq6, hm6⟩ := (HQ5.out.below (Below.refl _ _).drew).logged (va 258 (rawF 2 (at0 : Int) b)) hrow hgr hsb
  have HQ6 : Hid (DiskQ (w6.setCell ⟨g, 8, none⟩ (Value.slice xa (lg + 1) xc)) B g N (putAt F (at0 * 256) 256 b) (k + 1) (lg + 1) { q5 with lv := (Value.slice xa (lg + 1) xc), xs := q5.xs ++ (va 258 (rawF 2 (at0 : Int) b)).toList }) := hq6
  have HM6 : Hid (Moved g N q { q5 with lv := (Value.slice xa (lg + 1) xc), xs := q5.xs ++ (va 258 (rawF 2 (at0 : Int) b)).toList } w (w6.setCell ⟨g, 8, none⟩ (Value.slice xa (lg + 1) xc))) := HM1.out.trans (HM5.out.trans (Moved.trans (.of_below (Below.refl _ _).drew) hm6))
  have HQt6 : Hid (QuietC cv d1 { q5 with lv := (Value.slice xa (lg + 1) xc), xs := q5.xs ++ (va 258 (rawF 2 (at0 : Int) b)).toList } (m + 1)) := by
    obtain ⟨a1, a2, a3, a4, a5, a6⟩ := HQt5.out
    exact ⟨a1, a2, a3, a4, a5, fun u hu => by
      rcases List.mem_append.1 hu with h1 | h1
      · exact a6 u h1
      · exact raw_one _ _ _ u h1⟩
  have d8c : w6.cell? ⟨g, 8, none⟩ = some q5.lv := by rw [hB6.cell]; rfl
  have f8c : w6.frozen? ⟨g, 8, none⟩ = false := hB6.frozen 8
  have r7 : Blk w6 w.heap.size 60 (va 256 (iv .u8 b)) := (hgr.block _ r6.lt fun e => own_ne HQ5.out.log r5 (by decide) e.symm).trans r6
  clear hq6 hm6 HOWN HC HBB hrow hgr hsb d86 r6
  go_wp2_with fail
  refine ⟨rfl, ⟨d8c, r7⟩, partsI_force ?_⟩
  simp only [List.cons_append, List.nil_append, List.append_nil, List.filterMap_cons, List.filterMap_nil, List.getElem?_toArray, List.getElem?_cons_zero, List.getElem?_cons_succ]
  go_wp2_with fail
  refine ⟨rfl, ⟨d8c, r7⟩, partsI_force ?_⟩
  simp only [List.cons_append, List.nil_append, List.append_nil, List.filterMap_cons, List.filterMap_nil, List.getElem?_toArray, List.getElem?_cons_zero, List.getElem?_cons_succ]
  go_wp2_with fail
  refine ⟨rfl, ⟨d8c, r7⟩, partsI_last ?_⟩
  simp only [List.cons_append, List.nil_append, List.append_nil, List.filterMap_cons, List.filterMap_nil, List.getElem?_toArray, List.getElem?_cons_zero, List.getElem?_cons_succ]
  go_wp2_with fail
  refine ⟨rfl, ?_⟩
  go_wp2_with fail
  go_ret
  exact ⟨rfl, _, HQ6.out, HQt6.out, HM6.out, HV5.out⟩
theorem write_g {cv : Value} {m : Nat} (hq : QuietC cv false q m) (er : Int) (d1 : Bool) (hnext : ∀ w, DiskQ w B g N F (k + 1) lg q → Calls Try.prog 41 #[.pointer (some ⟨g, 0, none⟩)] w fun e w' => e = .returned (.tuple #[.bool true, .int .i64 er]) ∧ DiskQ w' B g N F (k + 1) lg { q with ev := q.ev + 1, dd := d1 } ∧ Moved g N q { q with ev := q.ev + 1, dd := d1 } w w') (at0 : Nat) (b : Nat → Nat) (hat : at0 < N) (hN : N ≤ 8192) (hk : k < 549755813888) (hlg : lg < 137438953472) (w : World) (hB : B ≤ w.heap.size) (h : DiskQ w B g N F k lg q) :
    Calls Try.prog 17 #[.pointer (some ⟨g, 0, none⟩), .int .i64 (at0 : Int), .agg (va 256 (iv .u8 b))] w fun e w' => e = .returned (.int .i64 er) ∧ ∃ q', DiskQ w' B g N (putAt F (at0 * 256) 256 b) (k + 1) (lg + 1) q' ∧ QuietC cv d1 q' (m + 1) ∧ Moved g N q q' w w' :=
  (write_ge hq er d1 at0 b hat hN hk hlg w (fun w0 h0 _ => hnext w0 h0) hB h).mono fun e w' ⟨h1, q', h2, h3, h4, _⟩ => ⟨h1, q', h2, h3, h4⟩
theorem write_q (hq : Quiet q k) (at0 : Nat) (b : Nat → Nat) (hat : at0 < N) (hN : N ≤ 8192) (hk : k < 549755813888) (hlg : lg < 137438953472) (w : World) (hB : B ≤ w.heap.size) (h : DiskQ w B g N F k lg q) :
    Calls Try.prog 17 #[.pointer (some ⟨g, 0, none⟩), .int .i64 (at0 : Int), .agg (va 256 (iv .u8 b))] w fun e w' => e = .returned (.int .i64 0) ∧ ∃ q', DiskQ w' B g N (putAt F (at0 * 256) 256 b) (k + 1) (lg + 1) q' ∧ Quiet q' (k + 1) ∧ Moved g N q q' w w' :=
  write_g hq 0 false (fun w hw => by
    have e : ({ q with ev := q.ev + 1, dd := false } : QD) = { q with ev := q.ev + 1 } := by
      have := hq.dd
      rw [← this]
    rw [e]
    exact next_q hq.cu ⟨hq.ev0, by have := hq.ev1; omega⟩ w hw) at0 b hat hN hk hlg w hB h
end
end Go.Proofs.Ytlmbokfgogkbmaa

namespace Go.Proofs.Ytlmbokfgogkbmaa
open Go Go.RowKit
set_option linter.unusedSimpArgs false
set_option linter.unusedVariables false

section
variable {B g N k lg : Nat} {F : Nat → Nat} {q : QD}
set_option maxRecDepth 100000 in
set_option maxHeartbeats 8000000 in
theorem read_ge {cv : Value} {m : Nat} (hq : QuietC cv false q m) (at0 : Nat) (hat : at0 < N) (hN : N ≤ 8192) (hk : k < 549755813888) (hlg : lg < 137438953472) (w : World) (hB : B ≤ w.heap.size) (h : DiskQ w B g N F k lg q) :
    Calls Try.prog 20 #[.pointer (some ⟨g, 0, none⟩), .int .i64 (at0 : Int)] w fun e w' => e = .returned (.tuple #[.agg (va 256 (iv .u8 (fun j => F (at0 * 256 + j)))), .int .i64 0]) ∧ ∃ q', DiskQ w' B g N F (k + 1) (lg + 1) q' ∧ QuietC cv false q' m ∧ Moved g N q q' w w' ∧ q'.ev = q.ev := by
  have hz := zero_bk
  obtain ⟨i0, hi, hz0, hz1, hz2⟩ := info_parts infoRaw
  have j0 : (0 : Int) ≤ (at0 : Int) := by omega
  have j1 : (at0 : Int) < (N : Int) := by omega
  have HQt : Hid (QuietC cv false q m) := hq
  have r1 : Blk (w.alloc (.cells (va 256 (iv .u8 fun _ => 0)) 60)) w.heap.size 60 (va 256 (iv .u8 fun _ => 0)) := Blk.new _ _ _
  have hb1 : Below w.heap.size w (w.alloc (.cells (va 256 (iv .u8 fun _ => 0)) 60)) := below_new1 _ _
  have HQ1 : Hid (DiskQ (w.alloc (.cells (va 256 (iv .u8 fun _ => 0)) 60)) B g N F k lg q) := h.below hb1
  have HM1 : Hid (Moved g N q q w (w.alloc (.cells (va 256 (iv .u8 fun _ => 0)) 60))) := .of_below hb1
  have HF : Hid (∀ z, foot g N q z → z < w.heap.size) := fun z hz => (h.foots z hz).2
  have HW : Hid (B ≤ w.heap.size) := hB
  clear h hb1 hB hq
  go_enter Try.func20, Try.ntmps20
  go_wp2_with fail
  have hs1 : w.heap.size < (w.alloc (.cells (va 256 (iv .u8 fun _ => 0)) 60)).heap.size := r1.lt
  generalize (w.alloc (.cells (va 256 (iv .u8 fun _ => 0)) 60)) = w1 at *
  refine (begin_q HQt.out.dd HQt.out.pl at0 hat (by omega) w1 HQ1.out).mono ?_
  rintro e w2 ⟨rfl, hq2, hm2⟩
  have HQ2 : Hid (DiskQ w2 B g N F (k + 1) lg q) := hq2
  have HM2 : Hid (Moved g N q q w1 w2) := hm2
  have r2 : Blk w2 w.heap.size 60 (va 256 (iv .u8 fun _ => 0)) := (hm2.1.block _ r1.lt fun e => by have := HF.out _ e; omega).trans r1
  have HQt2 : Hid (QuietC cv false q m) := by
    obtain ⟨a1, a2, a3, a4, a5, a6⟩ := HQt.out
    exact ⟨a1, a2, a3, a4, a5, a6⟩
  clear hq2 hm2 HQ1 r1
  go_wp2_with fail
  have d8 : w2.cell? ⟨g, 8, none⟩ = some q.lv := by rw [HQ2.out.c]; rfl
  have d0 : w2.cell? ⟨g, 0, none⟩ = some (.slice (some ⟨q.gn, 0, none⟩) N N) := by rw [HQ2.out.c]; rfl
  have HLD : Hid (∀ W, Blk W q.gn 60 (va (N * 256) (iv .u8 F)) → (loadCellsFrom ⟨q.gn, at0 * 256, none⟩ 0 256 #[]).run Try.prog W = .ok (va 256 (iv .u8 (fun j => F (at0 * 256 + j)))) W) := fun W hW => hW.loadMid (P := Try.prog) (o := at0 * 256) (n := 256) (by omega)
  have hld := HLD.out w2 HQ2.out.now
  have hld2 := HLD.out w2.drew HQ2.out.now
  refine wp_region_partsS (fun W => W.cell? ⟨g, 8, none⟩ = some q.lv) [([0, 1, 5, 6, 10], 2, true), ([], 3, true), ([], 4, true), ([], 7, false), ([], 8, false), ([], 9, false), ([11], 12, false), ([], 13, false), ([], 14, false), ([], 15, false), ([], 16, false), ([], 17, false)] [] [18] (by kernel_rfl) (by kernel_rfl) d8 (partsI_yield ?_)
  simp only [List.cons_append, List.nil_append, List.append_nil, List.filterMap_cons, List.filterMap_nil, List.getElem?_toArray, List.getElem?_cons_zero, List.getElem?_cons_succ]
  go_wp2_with fail
  refine ⟨rfl, _, .pointer (some ⟨g, 0, none⟩), rfl, Or.inl ⟨by rfl, fun W hW => by go_simp⟩, partsI_yield ?_⟩
  simp only [Act.put, List.setIfInBounds_toArray, List.set_cons_zero, List.set_cons_succ]
  simp only [List.cons_append, List.nil_append, List.append_nil, List.filterMap_cons, List.filterMap_nil, List.getElem?_toArray, List.getElem?_cons_zero, List.getElem?_cons_succ]
  go_wp2_with fail
  refine ⟨rfl, _, .pointer (some ⟨g, 8, none⟩), rfl, Or.inl ⟨by rfl, fun W hW => by go_simp⟩, partsI_yield ?_⟩
  simp only [Act.put, List.setIfInBounds_toArray, List.set_cons_zero, List.set_cons_succ]
  simp only [List.cons_append, List.nil_append, List.append_nil, List.filterMap_cons, List.filterMap_nil, List.getElem?_toArray, List.getElem?_cons_zero, List.getElem?_cons_succ]
  go_wp2_with fail
  refine ⟨rfl, _, q.lv, rfl, Or.inl ⟨by rfl, fun W hW => by go_simp⟩, partsI_force ?_⟩
  simp only [Act.put, List.setIfInBounds_toArray, List.set_cons_zero, List.set_cons_succ]
  simp only [List.cons_append, List.nil_append, List.append_nil, List.filterMap_cons, List.filterMap_nil, List.getElem?_toArray, List.getElem?_cons_zero, List.getElem?_cons_succ]
  go_wp2_with fail
  refine ⟨rfl, d8, partsI_force ?_⟩
  simp only [List.cons_append, List.nil_append, List.append_nil, List.filterMap_cons, List.filterMap_nil, List.getElem?_toArray, List.getElem?_cons_zero, List.getElem?_cons_succ]
  go_wp2_with fail
  refine ⟨rfl, d8, partsI_force ?_⟩
  simp only [List.cons_append, List.nil_append, List.append_nil, List.filterMap_cons, List.filterMap_nil, List.getElem?_toArray, List.getElem?_cons_zero, List.getElem?_cons_succ]
  go_wp2_with fail
  refine ⟨rfl, d8, partsI_force ?_⟩
  simp only [List.cons_append, List.nil_append, List.append_nil, List.filterMap_cons, List.filterMap_nil, List.getElem?_toArray, List.getElem?_cons_zero, List.getElem?_cons_succ]
  go_wp2_with fail
  refine wpList_load_blk (by rfl) 60 _ (by rfl) q.gn (at0 * 256) 256 (iv .u8 (fun j => F (at0 * 256 + j))) (by rfl) _ (HQ2.out.now.drew.range (at0 * 256) 256 (by omega)) Try.underlying60 rfl sizeBk ?_
  simp only [Act.put, List.setIfInBounds_toArray, List.set_cons_zero, List.set_cons_succ]
  go_wp2_with fail
  refine ⟨rfl, d8, partsI_force ?_⟩
  simp only [List.cons_append, List.nil_append, List.append_nil, List.filterMap_cons, List.filterMap_nil, List.getElem?_toArray, List.getElem?_cons_zero, List.getElem?_cons_succ]
  refine wpList_build3 rfl 106 _ _ _ rfl (.int .i64 1) (.int .i64 (at0 : Int)) (.agg (va 256 (iv .u8 (fun j => F (at0 * 256 + j))))) rfl rfl rfl (va 258 (rawF 1 (at0 : Int) fun j => F (at0 * 256 + j))) (built_raw 1 (at0 : Int) (fun j => F (at0 * 256 + j))) ?_
  simp only [Act.put, List.setIfInBounds_toArray, List.set_cons_zero, List.set_cons_succ]
  go_wp2_with fail
  refine ⟨rfl, d8, partsI_force ?_⟩
  simp only [List.cons_append, List.nil_append, List.append_nil, List.filterMap_cons, List.filterMap_nil, List.getElem?_toArray, List.getElem?_cons_zero, List.getElem?_cons_succ]
  refine wpList_build1 rfl 94 106 _ rfl (va 258 (rawF 1 (at0 : Int) fun j => F (at0 * 256 + j))) rfl i0 (.agg (va 258 (rawF 0 0 fun _ => 0))) 258 Try.underlying94 hi hz0 hz1 (va_size _ _) (by decide) (by decide) ?_
  simp only [Act.put, List.setIfInBounds_toArray, List.set_cons_zero, List.set_cons_succ]
  go_wp2_with fail
  have d86 : (w2.drew.alloc (.cells (va 258 (rawF 1 (at0 : Int) fun j => F (at0 * 256 + j))) 106)).cell? ⟨g, 8, none⟩ = some q.lv := by rw [(HQ2.out.cells.drew.alloc _).cell]; rfl
  refine ⟨rfl, d86, partsI_force ?_⟩
  simp only [List.cons_append, List.nil_append, List.append_nil, List.filterMap_cons, List.filterMap_nil, List.getElem?_toArray, List.getElem?_cons_zero, List.getElem?_cons_succ]
  have HOWN : Hid ((w2.drew.alloc (.cells (va 258 (rawF 1 (at0 : Int) fun j => F (at0 * 256 + j))) 106)).ownsRow B 106 258 q.lv lg q.xs) := World.ownsRow.alloc (w := w2.drew) HQ2.out.log _
  have HC : Hid (∀ j u, (va 258 (rawF 1 (at0 : Int) fun j => F (at0 * 256 + j))).toList[j]? = some u → (w2.drew.alloc (.cells (va 258 (rawF 1 (at0 : Int) fun j => F (at0 * 256 + j))) 106)).cell? ((⟨w2.drew.heap.size, 0, none⟩ : Addr).add j) = some u) := cells_new w2.drew _ _
  have HBB : Hid (B ≤ (w2.drew.alloc (.cells (va 258 (rawF 1 (at0 : Int) fun j => F (at0 * 256 + j))) 106)).heap.size) := by
    have h1 := HM2.out.1.size
    have h2 := HW.out
    show B ≤ _
    rw [show (w2.drew.alloc (.cells (va 258 (rawF 1 (at0 : Int) fun j => F (at0 * 256 + j))) 106)).heap.size = w2.heap.size + 1 by simp]
    omega
  refine wpList_append_own_at rfl _ _ 94 rfl B 106 i0 (.agg (va 258 (rawF 0 0 fun _ => 0))) 258 272 Try.underlying94 hi hz0 hz1 hz2 (va_size _ _) (by decide) _ _ _ rfl HOWN.out ⟨w2.drew.heap.size, 0, none⟩ 1 1 (va 258 (rawF 1 (at0 : Int) (fun j => F (at0 * 256 + j)))).toList rfl (by rw [Array.length_toList, va_size]) HC.out (raw_one _ _ _) (by unfold maxLen; omega) (by omega) HBB.out ?_
  intro v' w6 hrow hgr hsb
  obtain ⟨xa, xc, hxe⟩ := kown_slice hrow
  subst hxe
  obtain ⟨hB6, hq6, hm6⟩ := (HQ2.out.below (Below.refl _ _).drew).logged (va 258 (rawF 1 (at0 : Int) fun j => F (at0 * 256 + j))) hrow hgr hsb
  have HQ6 : Hid (DiskQ (w6.setCell ⟨g, 8, none⟩ (Value.slice xa (lg + 1) xc)) B g N F (k + 1) (lg + 1) { q with lv := (Value.slice xa (lg + 1) xc), xs := q.xs ++ (va 258 (rawF 1 (at0 : Int) fun j => F (at0 * 256 + j))).toList }) := hq6
  have HM6 : Hid (Moved g N q { q with lv := (Value.slice xa (lg + 1) xc), xs := q.xs ++ (va 258 (rawF 1 (at0 : Int) fun j => F (at0 * 256 + j))).toList } w1 (w6.setCell ⟨g, 8, none⟩ (Value.slice xa (lg + 1) xc))) := HM2.out.trans (Moved.trans (.of_below (Below.refl _ _).drew) hm6)
  have HQt6 : Hid (QuietC cv false { q with lv := (Value.slice xa (lg + 1) xc), xs := q.xs ++ (va 258 (rawF 1 (at0 : Int) fun j => F (at0 * 256 + j))).toList } m) := by
    obtain ⟨a1, a2, a3, a4, a5, a6⟩ := HQt2.out
    exact ⟨a1, a2, a3, a4, a5, fun u hu => by
      rcases List.mem_append.1 hu with h1 | h1
      · exact a6 u h1
      · exact raw_one _ _ _ u h1⟩
  have d8c : w6.cell? ⟨g, 8, none⟩ = some q.lv := by rw [hB6.cell]; rfl
  have f8c : w6.frozen? ⟨g, 8, none⟩ = false := hB6.frozen 8
  have hlr : q.lv.ownBlock ≠ some w.heap.size := fun e => by
    have := HF.out _ (.inr (.inr (.inr (.inr (.inl e)))))
    omega
  have r7 : Blk (w6.setCell ⟨g, 8, none⟩ (Value.slice xa (lg + 1) xc)) w.heap.size 60 (va 256 (iv .u8 fun _ => 0)) := by
    refine Blk.put_other ?_ _ _ fun e => ?_
    · exact (hgr.block _ (r2.drew.alloc (.cells (va 258 (rawF 1 (at0 : Int) fun j => F (at0 * 256 + j))) 106)).lt fun e => hlr e.symm).trans (r2.drew.alloc _)
    · have := HF.out _ (.inl e)
      omega
  clear hq6 hm6 HOWN HC HBB hrow hgr hsb d86 r2
  go_wp2_with fail
  refine ⟨rfl, d8c, partsI_force ?_⟩
  simp only [List.cons_append, List.nil_append, List.append_nil, List.filterMap_cons, List.filterMap_nil, List.getElem?_toArray, List.getElem?_cons_zero, List.getElem?_cons_succ]
  go_wp2_with fail
  refine ⟨rfl, d8c, partsI_force ?_⟩
  simp only [List.cons_append, List.nil_append, List.append_nil, List.filterMap_cons, List.filterMap_nil, List.getElem?_toArray, List.getElem?_cons_zero, List.getElem?_cons_succ]
  go_wp2_with fail
  refine ⟨rfl, d8c, partsI_last ?_⟩
  simp only [List.cons_append, List.nil_append, List.append_nil, List.filterMap_cons, List.filterMap_nil, List.getElem?_toArray, List.getElem?_cons_zero, List.getElem?_cons_succ]
  go_wp2_with fail
  refine ⟨rfl, ?_⟩
  clear hB6 d8c f8c HQ2 hld hld2 d8 d0
  generalize (w6.setCell ⟨g, 8, none⟩ (Value.slice xa (lg + 1) xc)) = w7 at *
  have e0 : w7.cell? ⟨g, 0, none⟩ = some (.slice (some ⟨q.gn, 0, none⟩) N N) := by rw [HQ6.out.c]; rfl
  go_wp2_with (first
    | (refine wpList_load_blk (by rfl) 60 _ (by rfl) q.gn (at0 * 256) 256 (iv .u8 (fun j => F (at0 * 256 + j))) (by rfl) _ (HQ6.out.now.range (at0 * 256) 256 (by omega)) Try.underlying60 rfl sizeBk ?_; simp only [Act.put, List.setIfInBounds_toArray, List.set_cons_zero, List.set_cons_succ])
    | (refine wpList_store_row (by rfl) 60 _ _ (by rfl) (w.heap.size) (va 256 (iv .u8 (fun j => F (at0 * 256 + j)))) (by rfl) (by rfl) 60 _ r7 (sizeBk.trans (by rw [va_size])) (by simp only [va_size]) (iv_one _ _ _) ?_; simp only [Act.put, List.setIfInBounds_toArray, List.set_cons_zero, List.set_cons_succ])
    | fail)
  try simp only [Exit.inBlock, Exit.then]
  refine bodyPost_ret (results_row2 Try.results20 _ _ (w.heap.size) 60 (va 256 (iv .u8 (fun j => F (at0 * 256 + j)))) (0, 0) _ rfl ((r7.set _)) Try.underlying60 rfl (sizeBk.trans (by rw [va_size]))) rfl ?_
  have HM7 : Hid (Moved g N q { q with lv := (Value.slice xa (lg + 1) xc), xs := q.xs ++ (va 258 (rawF 1 (at0 : Int) fun j => F (at0 * 256 + j))).toList } w w7) := HM1.out.trans HM6.out
  refine ⟨rfl, _, HQ6.out.kept fun z hz => setRow_other w7 w.heap.size z _ fun e => ?_, HQt6.out, ⟨⟨HM7.out.1.os, HM7.out.1.tape, HM7.out.1.output, ?_, fun z hz hf => (setRow_other w7 w.heap.size z _ (by omega)).trans (HM7.out.1.block z hz hf)⟩, HM7.out.2⟩, rfl⟩
  · rcases HM6.out.2 z hz with h1 | h1
    · have := HF.out _ h1
      omega
    · omega
  · rw [setRow_size]
    exact HM7.out.1.size
theorem read_g {cv : Value} {m : Nat} (hq : QuietC cv false q m) (at0 : Nat) (hat : at0 < N) (hN : N ≤ 8192) (hk : k < 549755813888) (hlg : lg < 137438953472) (w : World) (hB : B ≤ w.heap.size) (h : DiskQ w B g N F k lg q) :
    Calls Try.prog 20 #[.pointer (some ⟨g, 0, none⟩), .int .i64 (at0 : Int)] w fun e w' => e = .returned (.tuple #[.agg (va 256 (iv .u8 (fun j => F (at0 * 256 + j)))), .int .i64 0]) ∧ ∃ q', DiskQ w' B g N F (k + 1) (lg + 1) q' ∧ QuietC cv false q' m ∧ Moved g N q q' w w' :=
  (read_ge hq at0 hat hN hk hlg w hB h).mono fun e w' ⟨h1, q', h2, h3, h4, _⟩ => ⟨h1, q', h2, h3, h4⟩
theorem read_q {cv : Value} (hq : QuietC cv false q k) (at0 : Nat) (hat : at0 < N) (hN : N ≤ 8192) (hk : k < 549755813888) (hlg : lg < 137438953472) (w : World) (hB : B ≤ w.heap.size) (h : DiskQ w B g N F k lg q) :
    Calls Try.prog 20 #[.pointer (some ⟨g, 0, none⟩), .int .i64 (at0 : Int)] w fun e w' => e = .returned (.tuple #[.agg (va 256 (iv .u8 (fun j => F (at0 * 256 + j)))), .int .i64 0]) ∧ ∃ q', DiskQ w' B g N F (k + 1) (lg + 1) q' ∧ QuietC cv false q' (k + 1) ∧ Moved g N q q' w w' :=
  (read_g hq at0 hat hN hk hlg w hB h).mono fun e w' ⟨h1, q', h2, h3, h4⟩ => ⟨h1, q', h2, h3.mono (Nat.le_succ _), h4⟩
end
end Go.Proofs.Ytlmbokfgogkbmaa
