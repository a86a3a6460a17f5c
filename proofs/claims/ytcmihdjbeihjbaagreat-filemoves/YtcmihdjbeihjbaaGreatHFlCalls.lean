/- Files: Size and Read. -/
import Derived.Test.YtcmihdjbeihjbaaGreatHLogKit
import Derived.Test.YtcmihdjbeihjbaaGreatHFlKit
import Derived.Handy
import Derived.Test.YtcmihdjbeihjbaaGreatHInsCalls
import Derived.Test.YtcmihdjbeihjbaaGreatHInsPut

namespace Go.Proofs.YtcmihdjbeihjbaaGreat
open Go Go.RowKit
set_option linter.unusedSimpArgs false
set_option linter.unusedVariables false
/-- inodes in the memory, of which n is a file, and all others are as they were -/
def Now (w : World) (x mf ml mc : Nat) (cp : Option Addr) (top : Int) (H0 : Nat → Hd) (D0 : Nat → Nat → Nat → Nat) (n z st : Nat) (F : Nat → Nat) : Prop := ∃ H D, IM w x mf ml mc cp top H D ∧ Fi H D n z st F ∧ ∀ m, m ≠ n → H m = H0 m ∧ D m = D0 m
/-- bytes laid over a file's -/
def wrF (F : Nat → Nat) (o : Nat) (s : ByteArray) (a : Nat) : Nat → Nat := fun p => if a ≤ p ∧ p < a + s.size then tbyte s (p - a) else if p < o then F p else 0
theorem sizeInfo : (Tryz.prog.info? 62).map (·.size) = some 5 := by kernel_rfl
/-- the first leaves are laid -/
def paF (B G : Nat → Nat) (q0 k : Nat) : Nat → Nat := fun p => if q0 ≤ p / 256 ∧ p / 256 < q0 + k then G (p - 256 * q0) else B p
theorem pa_next (B G : Nat → Nat) (q0 k p : Nat) : paF B G q0 (k + 1) p = lyF (paF B G q0 k) (q0 + k) (fun j => G (k * 256 + j)) p := by
  unfold paF lyF
  by_cases c : p / 256 = q0 + k
  · rw [if_pos (by omega), if_pos c]
    congr 1
    omega
  · rw [if_neg c]
    show _ = (if q0 ≤ p / 256 ∧ p / 256 < q0 + k then G (p - 256 * q0) else B p)
    by_cases c2 : q0 ≤ p / 256 ∧ p / 256 < q0 + k
    · rw [if_pos c2, if_pos (by omega)]
    · rw [if_neg c2, if_neg (by omega)]
theorem fl_range {w : World} {g e c k : Nat} {cur : Array Value} {G : Nat → Nat} (hg : w.heap[g]? = some (.cells cur e (0, 0))) (ht : cur.toList.take (c * 256) = byL G (c * 256)) (hk : k < c) : w.rangeAt g (k * 256) ((List.range 256).map (iv .u8 fun j => G (k * 256 + j))) := fun j u hu => by
  have hj : j < 256 := by
    have := (List.getElem?_eq_some_iff.1 hu).1
    simpa using this
  have h2 : (cur.toList.take (c * 256))[k * 256 + j]? = some (.int .u8 ((G (k * 256 + j) : Nat) : Int)) := by
    rw [ht, byL_at _ _ _ (by omega)]
  rw [List.getElem?_take_of_lt (by omega)] at h2
  have h3 : u = .int .u8 ((G (k * 256 + j) : Nat) : Int) := by
    simp [hj, iv] at hu
    exact hu.symm
  rw [h3]
  have : w.cell? ⟨g, k * 256 + j, none⟩ = cur[k * 256 + j]? := by simp [World.cell?, hg]
  rw [this]
  simpa using h2
section
variable {w w' : World} {x mf ml mc : Nat} {cp : Option Addr} {top : Int} {H : Nat → Hd} {D : Nat → Nat → Nat → Nat} {n o st : Nat} {F : Nat → Nat}
theorem lay_bytes (hf : Fi H D n o st F) (s : ByteArray) (a z : Nat) (hoz : o ≤ z) (haz : a + s.size ≤ z) (p : Nat) (hp : p < z) : wrF F o s a p = paF (fzF F o) (fun p => ovF (D n) s a z (256 * (a / 256) + p)) (a / 256) (cvN a s.size) p := by
  unfold paF
  by_cases c : a / 256 ≤ p / 256 ∧ p / 256 < a / 256 + cvN a s.size
  · rw [if_pos c]
    show _ = ovF (D n) s a z (256 * (a / 256) + (p - 256 * (a / 256)))
    rw [show 256 * (a / 256) + (p - 256 * (a / 256)) = p by omega, ovF_in _ _ _ _ _ (by omega) hp]
    unfold wrF
    by_cases c2 : a ≤ p ∧ p < a + s.size
    · rw [if_pos c2, if_pos c2]
    · rw [if_neg c2, if_neg c2, hf.bs (p / 256) (p % 256) (by omega), show 256 * (p / 256) + p % 256 = p by omega]
  · rw [if_neg c]
    unfold wrF fzF
    rw [if_neg]
    unfold cvN at c
    omega
set_option maxRecDepth 100000 in
set_option maxHeartbeats 16000000 in
theorem IM.lay (h : IM w x mf ml mc cp top H D) (hf : Fi H D n o st F) (s : ByteArray) (a z s' : Nat) (hs : 0 < s.size) (hoz : o ≤ z) (hz : z ≤ 1048576) (haz : a + s.size ≤ z) : Calls Tryz.prog 43 #[.pointer (some ⟨x, 0, none⟩), .agg (fiC n o st), .int .i64 (a : Int), .string s, .int .i64 (z : Int), .int .u64 ((s' : Nat) : Int)] w fun e w' => e = .returned (.int .i64 0) ∧ Now w' x mf ml mc cp top H D n z s' (wrF F o s a) ∧ Turns (fun z => z = ml ∨ z = mf) w w' := by
  have HBY : Hid (∀ p, p < z → wrF F o s a p = paF (fzF F o) (fun p => ovF (D n) s a z (256 * (a / 256) + p)) (a / 256) (cvN a s.size) p) := lay_bytes hf s a z hoz haz
  obtain ⟨q0, hq0⟩ : ∃ q0 : Nat, a / 256 = q0 := ⟨_, rfl⟩
  obtain ⟨c, hc⟩ : ∃ c : Nat, cvN a s.size = c := ⟨_, rfl⟩
  obtain ⟨G, hG⟩ : ∃ G : Nat → Nat, (fun p => ovF (D n) s a z (256 * (a / 256) + p)) = G := ⟨_, rfl⟩
  have hc0 : 0 < c := by rw [← hc]; unfold cvN; omega
  have hc1 : q0 + c ≤ (z + 255) / 256 := by rw [← hc, ← hq0]; unfold cvN; omega
  have HLD := laid_any (w := w.alloc (.cells (fiC n o st) 62)) (x := x) (n := n) (sz := o) (st := st) (L := D n) s a z hz (by omega) (fun V hV q hq => ((h.below (below_new1 _ _)).below hV).leafF hf q hq)
  rw [hc, hG] at HLD
  rw [hc, hG, hq0] at HBY
  have k0 : Blk (w.alloc (.cells (fiC n o st) 62)) w.heap.size 62 (fiC n o st) := Blk.new _ _ _
  have hb0 : Below w.heap.size w (w.alloc (.cells (fiC n o st) 62)) := below_new1 _ _
  have HI : Hid (IM w x mf ml mc cp top H D ∧ Fi H D n o st F ∧ Blk (w.alloc (.cells (fiC n o st) 62)) w.heap.size 62 (fiC n o st) ∧ Below w.heap.size w (w.alloc (.cells (fiC n o st) 62))) := ⟨h, hf, k0, hb0⟩
  have HZ : Hid (o ≤ z ∧ z ≤ 1048576 ∧ 0 < c ∧ q0 + c ≤ (z + 255) / 256) := ⟨hoz, hz, hc0, hc1⟩
  have ho1 : o ≤ 1048576 := by omega
  have ha1 : a ≤ 1048576 := by omega
  have hc2 : c ≤ 4096 := by omega
  have hq1 : q0 ≤ 4096 := by omega
  have e1 : (a : Int).tdiv 256 = (q0 : Int) := by rw [← hq0]; rfl
  have hzk := zero_bk
  clear h hf hb0 hG hc hq0 hoz haz hs hc0 hc1
  go_enter Tryz.func43, Tryz.ntmps43
  go_wp2_with (first
    | (refine wpList_load_row (by rfl) 62 _ (by rfl) (w.heap.size) (by rfl) 62 (fiC n o st) (0, 0) _ (by exact k0) Tryz.underlying62 (by rfl) (sizeInfo.trans (by rfl)) ?_; simp only [Act.put, List.setIfInBounds_toArray, List.set_cons_zero, List.set_cons_succ])
    | fail)
  refine HLD.mono ?_
  rintro e w1 ⟨v, rfl, hown, hbw⟩
  have hl := HI.out.1.lts
  obtain ⟨g, cap, rfl, hg1, hg2⟩ := kown_form hown HZ.out.2.2.1
  obtain ⟨cur, hcur, htk⟩ : ∃ cur, w1.heap[g]? = some (.cells cur 148 (0, 0)) ∧ cur.toList.take (c * 256) = byL G (c * 256) := by
    rcases hown.2 with ⟨h, _⟩ | ⟨g', cap', cur, h1, h2, h3, _, _, _, h4⟩
    · cases h
    · injection h1 with h1 _ _
      injection h1 with h1
      injection h1 with h1 _ _
      subst h1
      exact ⟨cur, h3, h4⟩
  have hb1 : Below w.heap.size w w1 := HI.out.2.2.2.trans (hbw.mono (by simp))
  have hk1 : Blk w1 w.heap.size 62 (fiC n o st) := HI.out.2.2.1.below hbw (by simp)
  have hgw : w.heap.size + 1 ≤ g := by simpa using hg1
  have c3 := fi_c3 hk1
  have c0 := fi_c0 hk1
  have HT : Hid (cur.toList.take (c * 256) = byL G (c * 256)) := htk
  clear HLD hown hg1 htk k0 hbw
  by_cases hoz : o < z
  · have t1 : (o : Int) < (z : Int) := by omega
    have HRS := (HI.out.1.below hb1).resizeM n HI.out.2.1.n1 HI.out.2.1.n2 o z s' HI.out.2.1.no HI.out.2.1.left HI.out.2.1.s (.inl HI.out.2.1.k) ho1 hz (fun q i hi hp => by rw [HI.out.2.1.bs q i hi, if_neg (by omega)])
    have hf2 := HI.out.2.1.resize z s' hz
    have HF2 : Hid (Fi (hU H n (rsH (hdT (H n) s') o z)) (rsD D n z) n z s' (fzF F o)) := hf2
    have t2 : ¬ ((z : Int) < (o : Int)) := by omega
    clear hf2 hoz
    go_wp2_with fail
    refine HRS.mono ?_
    rintro e w2 ⟨rfl, hI2, ht2⟩
    have hN2 : Now w2 x mf ml mc cp top H D n z s' (fzF F o) := ⟨_, _, hI2, HF2.out, fun m hm => ⟨hU_not _ _ _ _ hm, rsD_not _ _ _ _ hm⟩⟩
    have hT2 : Turns (fun z => z = ml ∨ z = mf) w w2 := (Turns.bel hb1).tr ht2
    have hc2' : w2.heap[g]? = some (.cells cur 148 (0, 0)) := (ht2.block g hg2 (by omega)).trans hcur
    have hk2 : Blk w2 w.heap.size 62 (fiC n o st) := (ht2.block _ hk1.lt (by omega)).trans hk1
    have hst : ∃ st', Now w2 x mf ml mc cp top H D n z st' (fzF F o) := ⟨s', hN2⟩
    clear HRS HF2 hI2 ht2 hN2 hcur hk1 hb1 c3 c0
    go_wp2_with fail
    go_loopw [46] (fun t wr => ∃ k : Nat, k ≤ c ∧ t = .int .i64 (k : Int) ∧ (∃ st', (0 < k → st' = s') ∧ Now wr x mf ml mc cp top H D n z st' (paF (fzF F o) G q0 k)) ∧ wr.heap[g]? = some (.cells cur 148 (0, 0)) ∧ Blk wr w.heap.size 62 (fiC n o st) ∧ Turns (fun z => z = ml ∨ z = mf) w wr) (fun t _ => c - (intOf t).toNat)
    case atStart =>
      obtain ⟨st', H', D', h1, h2, h3⟩ := hst
      exact ⟨0, Nat.zero_le _, rfl, ⟨st', fun h => absurd h (by omega), H', D', h1, h2.congr fun p _ => by unfold paF; rw [if_neg (by omega)], h3⟩, hc2', hk2, hT2⟩
    case round =>
      clear hst hc2' hk2 hT2
      obtain ⟨k, hk, rfl, ⟨st', hst', H', D', hI, hf, hm⟩, hcu, hkI, hT⟩ := hrel
      have c0 := fi_c0 hkI
      have c3 := fi_c3 hkI
      have hlw := hI.lts
      have hsT := hT.size
      by_cases hlt : k < c
      · have k0 : (0 : Int) ≤ (k : Int) := by omega
        have k1 : (k : Int) < (c : Int) := by omega
        obtain ⟨q, hq⟩ : ∃ q : Nat, q0 + k = q := ⟨_, rfl⟩
        have e2 : (q0 : Int) + (k : Int) = (q : Int) := by omega
        have hq4 : q ≤ 4096 := by have := HZ.out; omega
        obtain ⟨f, hfl⟩ : ∃ f : Nat → Nat, (fun j => G (k * 256 + j)) = f := ⟨_, rfl⟩
        have HR : Hid (wr.rangeAt g (k * 256) ((List.range 256).map (iv .u8 f))) := by
          rw [← hfl]
          exact fl_range hcu HT.out hlt
        have hgl : g < wr.heap.size := (Array.getElem?_eq_some_iff.1 hcu).1
        have c1 := Blk.new wr 148 (va 256 (iv .u8 fun _ => 0))
        have c2 := c1.set (va 256 (iv .u8 f))
        have hbB : Below wr.heap.size wr ((wr.alloc (Obj.cells (va 256 (iv IntKind.u8 fun _ => 0)) 148)).setRow wr.heap.size (va 256 (iv .u8 f))) := below_setRow (below_new1 wr _) (Nat.le_refl _) _
        have c0' : ((wr.alloc (Obj.cells (va 256 (iv IntKind.u8 fun _ => 0)) 148)).setRow wr.heap.size (va 256 (iv .u8 f))).cell? ⟨w.heap.size, 0, none⟩ = some (.int .i64 (n : Int)) := fi_c0 (hkI.below hbB hkI.lt)
        have HST := (hI.below hbB).setM n q hf.n1 hf.n2 (by rw [hf.k]; decide) hf.no z s' f hf.s (by have := HZ.out; omega) (by have := HZ.out; omega)
        have HF3 : Hid (Fi (hU H' n (hdT (hdS (H' n)) s')) (dU D' n q (upF f (z - q * 256))) n z s' (paF (fzF F o) G q0 (k + 1))) := by
          refine (hf.set q s' f).congr fun p _ => ?_
          rw [← hq, ← hfl]
          exact pa_next _ _ _ _ _
        have HM : Hid (∀ m, m ≠ n → H' m = H m ∧ D' m = D m) := hm
        have HKI : Hid (Blk wr w.heap.size 62 (fiC n o st) ∧ wr.heap[g]? = some (.cells cur 148 (0, 0)) ∧ Turns (fun z => z = ml ∨ z = mf) w wr ∧ g < wr.heap.size) := ⟨hkI, hcu, hT, hgl⟩
        clear hI hf hm hkI hcu hT hfl hst' hgl
        go_wp2_with (first
          | (refine wpList_load_blk (by rfl) 148 _ (by rfl) g (k * 256) 256 (iv .u8 f) (by rfl) _ HR.out Tryz.underlying148 rfl sizeBk ?_; simp only [Act.put, List.setIfInBounds_toArray, List.set_cons_zero, List.set_cons_succ])
          | (refine wpList_store_row (by rfl) 148 _ _ (by rfl) (wr.heap.size) (va 256 (iv .u8 f)) (by rfl) (by rfl) 148 _ c1 (sizeBk.trans (by rw [va_size])) (by simp only [va_size]) (iv_one _ _ _) ?_; simp only [Act.put, List.setIfInBounds_toArray, List.set_cons_zero, List.set_cons_succ])
          | (refine wpList_load_row (by rfl) 148 _ (by rfl) (wr.heap.size) (by rfl) 148 (va 256 (iv .u8 f)) (0, 0) _ c2 Tryz.underlying148 (by rfl) (sizeBk.trans (by rw [va_size])) ?_; simp only [Act.put, List.setIfInBounds_toArray, List.set_cons_zero, List.set_cons_succ])
          | fail)
        refine HST.mono ?_
        rintro e w7 ⟨rfl, hI7, ht7⟩
        have hT7 : Turns (fun z => z = ml ∨ z = mf) wr w7 := (Turns.bel hbB).tr ht7
        have hN7 : Now w7 x mf ml mc cp top H D n z s' (paF (fzF F o) G q0 (k + 1)) := ⟨_, _, hI7, HF3.out, fun m hm => ⟨(hU_not _ _ _ _ hm).trans (HM.out m hm).1, (dU_not _ _ _ _ _ hm).trans (HM.out m hm).2⟩⟩
        have hc7 : w7.heap[g]? = some (.cells cur 148 (0, 0)) := (hT7.block g HKI.out.2.2.2 (by omega)).trans HKI.out.2.1
        have hk7 : Blk w7 w.heap.size 62 (fiC n o st) := (hT7.block _ HKI.out.1.lt (by omega)).trans HKI.out.1
        have hTT : Turns (fun z => z = ml ∨ z = mf) w w7 := HKI.out.2.2.1.tr hT7
        clear HST hI7 ht7 c1 c2 hbB c0' HR HF3 HM HKI hT7
        go_wp2_with fail
        go_roundw
        case rel => exact ⟨k + 1, hlt, by simp, ⟨s', fun _ => rfl, hN7⟩, hc7, hk7, hTT⟩
        case measure =>
          simp [intOf]
          omega
      · have hkc : k = c := by omega
        have k1 : ¬ ((k : Int) < (c : Int)) := by omega
        have HE : Hid (Now wr x mf ml mc cp top H D n z s' (wrF F o s a) ∧ Turns (fun z => z = ml ∨ z = mf) w wr) := by
          refine ⟨⟨H', D', hI, ?_, hm⟩, hT⟩
          have := hst' (by have := HZ.out; omega)
          subst this hkc
          exact hf.congr fun p hp => HBY.out p hp
        clear hI hf hm hT hst' hlt
        go_wp2_with fail
        go_ret
        exact ⟨rfl, HE.out⟩
  · have t1 : ¬ ((o : Int) < (z : Int)) := by omega
    have hoz' : o = z := by have := HZ.out; omega
    subst hoz'
    have t2 : ¬ ((o : Int) < (o : Int)) := by omega
    obtain ⟨w2, hw2⟩ : ∃ w2, w2 = w1 := ⟨_, rfl⟩
    have hT2 : Turns (fun z => z = ml ∨ z = mf) w w2 := by rw [hw2]; exact Turns.bel hb1
    have hc2' : w2.heap[g]? = some (.cells cur 148 (0, 0)) := by rw [hw2]; exact hcur
    have hk2 : Blk w2 w.heap.size 62 (fiC n o st) := by rw [hw2]; exact hk1
    have hst : ∃ st', Now w2 x mf ml mc cp top H D n o st' (fzF F o) := ⟨st, H, D, by rw [hw2]; exact HI.out.1.below hb1, HI.out.2.1.congr fun p hp => by unfold fzF; rw [if_pos hp], fun m hm => ⟨rfl, rfl⟩⟩
    have hg2' : g < w2.heap.size := by rw [hw2]; exact hg2
    clear hcur hk1 hb1 hoz
    go_wp2_with fail
    rw [← hw2]
    clear hw2 c3 c0 hg2
    go_loopw [46] (fun t wr => ∃ k : Nat, k ≤ c ∧ t = .int .i64 (k : Int) ∧ (∃ st', (0 < k → st' = s') ∧ Now wr x mf ml mc cp top H D n o st' (paF (fzF F o) G q0 k)) ∧ wr.heap[g]? = some (.cells cur 148 (0, 0)) ∧ Blk wr w.heap.size 62 (fiC n o st) ∧ Turns (fun z => z = ml ∨ z = mf) w wr) (fun t _ => c - (intOf t).toNat)
    case atStart =>
      obtain ⟨st', H', D', h1, h2, h3⟩ := hst
      exact ⟨0, Nat.zero_le _, rfl, ⟨st', fun h => absurd h (by omega), H', D', h1, h2.congr fun p _ => by unfold paF; rw [if_neg (by omega)], h3⟩, hc2', hk2, hT2⟩
    case round =>
      clear hst hc2' hk2 hT2
      obtain ⟨k, hk, rfl, ⟨st', hst', H', D', hI, hf, hm⟩, hcu, hkI, hT⟩ := hrel
      have c0 := fi_c0 hkI
      have c3 := fi_c3 hkI
      have hlw := hI.lts
      have hsT := hT.size
      by_cases hlt : k < c
      · have k0 : (0 : Int) ≤ (k : Int) := by omega
        have k1 : (k : Int) < (c : Int) := by omega
        obtain ⟨q, hq⟩ : ∃ q : Nat, q0 + k = q := ⟨_, rfl⟩
        have e2 : (q0 : Int) + (k : Int) = (q : Int) := by omega
        have hq4 : q ≤ 4096 := by have := HZ.out; omega
        obtain ⟨f, hfl⟩ : ∃ f : Nat → Nat, (fun j => G (k * 256 + j)) = f := ⟨_, rfl⟩
        have HR : Hid (wr.rangeAt g (k * 256) ((List.range 256).map (iv .u8 f))) := by
          rw [← hfl]
          exact fl_range hcu HT.out hlt
        have hgl : g < wr.heap.size := (Array.getElem?_eq_some_iff.1 hcu).1
        have c1 := Blk.new wr 148 (va 256 (iv .u8 fun _ => 0))
        have c2 := c1.set (va 256 (iv .u8 f))
        have hbB : Below wr.heap.size wr ((wr.alloc (Obj.cells (va 256 (iv IntKind.u8 fun _ => 0)) 148)).setRow wr.heap.size (va 256 (iv .u8 f))) := below_setRow (below_new1 wr _) (Nat.le_refl _) _
        have c0' : ((wr.alloc (Obj.cells (va 256 (iv IntKind.u8 fun _ => 0)) 148)).setRow wr.heap.size (va 256 (iv .u8 f))).cell? ⟨w.heap.size, 0, none⟩ = some (.int .i64 (n : Int)) := fi_c0 (hkI.below hbB hkI.lt)
        have HST := (hI.below hbB).setM n q hf.n1 hf.n2 (by rw [hf.k]; decide) hf.no o s' f hf.s (by have := HZ.out; omega) (by have := HZ.out; omega)
        have HF3 : Hid (Fi (hU H' n (hdT (hdS (H' n)) s')) (dU D' n q (upF f (o - q * 256))) n o s' (paF (fzF F o) G q0 (k + 1))) := by
          refine (hf.set q s' f).congr fun p _ => ?_
          rw [← hq, ← hfl]
          exact pa_next _ _ _ _ _
        have HM : Hid (∀ m, m ≠ n → H' m = H m ∧ D' m = D m) := hm
        have HKI : Hid (Blk wr w.heap.size 62 (fiC n o st) ∧ wr.heap[g]? = some (.cells cur 148 (0, 0)) ∧ Turns (fun z => z = ml ∨ z = mf) w wr ∧ g < wr.heap.size) := ⟨hkI, hcu, hT, hgl⟩
        clear hI hf hm hkI hcu hT hfl hst' hgl
        go_wp2_with (first
          | (refine wpList_load_blk (by rfl) 148 _ (by rfl) g (k * 256) 256 (iv .u8 f) (by rfl) _ HR.out Tryz.underlying148 rfl sizeBk ?_; simp only [Act.put, List.setIfInBounds_toArray, List.set_cons_zero, List.set_cons_succ])
          | (refine wpList_store_row (by rfl) 148 _ _ (by rfl) (wr.heap.size) (va 256 (iv .u8 f)) (by rfl) (by rfl) 148 _ c1 (sizeBk.trans (by rw [va_size])) (by simp only [va_size]) (iv_one _ _ _) ?_; simp only [Act.put, List.setIfInBounds_toArray, List.set_cons_zero, List.set_cons_succ])
          | (refine wpList_load_row (by rfl) 148 _ (by rfl) (wr.heap.size) (by rfl) 148 (va 256 (iv .u8 f)) (0, 0) _ c2 Tryz.underlying148 (by rfl) (sizeBk.trans (by rw [va_size])) ?_; simp only [Act.put, List.setIfInBounds_toArray, List.set_cons_zero, List.set_cons_succ])
          | fail)
        refine HST.mono ?_
        rintro e w7 ⟨rfl, hI7, ht7⟩
        have hT7 : Turns (fun z => z = ml ∨ z = mf) wr w7 := (Turns.bel hbB).tr ht7
        have hN7 : Now w7 x mf ml mc cp top H D n o s' (paF (fzF F o) G q0 (k + 1)) := ⟨_, _, hI7, HF3.out, fun m hm => ⟨(hU_not _ _ _ _ hm).trans (HM.out m hm).1, (dU_not _ _ _ _ _ hm).trans (HM.out m hm).2⟩⟩
        have hc7 : w7.heap[g]? = some (.cells cur 148 (0, 0)) := (hT7.block g HKI.out.2.2.2 (by omega)).trans HKI.out.2.1
        have hk7 : Blk w7 w.heap.size 62 (fiC n o st) := (hT7.block _ HKI.out.1.lt (by omega)).trans HKI.out.1
        have hTT : Turns (fun z => z = ml ∨ z = mf) w w7 := HKI.out.2.2.1.tr hT7
        clear HST hI7 ht7 c1 c2 hbB c0' HR HF3 HM HKI hT7
        go_wp2_with fail
        go_roundw
        case rel => exact ⟨k + 1, hlt, by simp, ⟨s', fun _ => rfl, hN7⟩, hc7, hk7, hTT⟩
        case measure =>
          simp [intOf]
          omega
      · have hkc : k = c := by omega
        have k1 : ¬ ((k : Int) < (c : Int)) := by omega
        have HE : Hid (Now wr x mf ml mc cp top H D n o s' (wrF F o s a) ∧ Turns (fun z => z = ml ∨ z = mf) w wr) := by
          refine ⟨⟨H', D', hI, ?_, hm⟩, hT⟩
          have := hst' (by have := HZ.out; omega)
          subst this hkc
          exact hf.congr fun p hp => HBY.out p hp
        clear hI hf hm hT hst' hlt
        go_wp2_with fail
        go_ret
        exact ⟨rfl, HE.out⟩
end
end Go.Proofs.YtcmihdjbeihjbaaGreat

namespace Go.Proofs.YtcmihdjbeihjbaaGreat
open Go Go.RowKit
set_option linter.unusedSimpArgs false
set_option linter.unusedVariables false
/-- an inode's information -/
def ifC (n k l s : Int) (t : Nat) : Array Value := #[.int .i64 n, .int .i64 k, .int .i64 l, .int .i64 s, .int .u64 ((t : Nat) : Int)]
def if0 : Array Value := ifC 0 0 0 0 0
theorem if_all (n k l s : Int) (t : Nat) : (ifC n k l s t).all (·.oneCell') = true := by simp [ifC, Value.oneCell']
theorem res_cct {P : Program} {fn : Func} {p q u : Tmp} {ty ty' : TypeId} (h : fn.results = #[.cell p ty, .cell q ty', .tmp u]) (tmps : Array Value) (w : World) (g : Nat) (t : TypeId) (cs : Array Value) (fr : Nat × Nat) (d : TypeDesc) (g' : Nat) (t' : TypeId) (cs' : Array Value) (fr' : Nat × Nat) (d' : TypeDesc)
    (hp : tmps.getD p undef = .pointer (some ⟨g, 0, none⟩)) (hg : w.heap[g]? = some (.cells cs t fr))
    (hu : P.underlying ty = some d) (hd : (match d with | .struct _ | .array _ _ => true | _ => false) = true) (hi : (P.info? ty).map (·.size) = some cs.size)
    (hp2 : tmps.getD q undef = .pointer (some ⟨g', 0, none⟩)) (hg2 : w.heap[g']? = some (.cells cs' t' fr'))
    (hu2 : P.underlying ty' = some d') (hd2 : (match d' with | .struct _ | .array _ _ => true | _ => false) = true) (hi2 : (P.info? ty').map (·.size) = some cs'.size) :
    (results fn tmps).run P w = .ok (.tuple #[.agg cs, .agg cs', tmps.getD u undef]) w := by
  have hp' : tmps[p]?.getD undef = .pointer (some ⟨g, 0, none⟩) := by simpa using hp
  have hp2' : tmps[q]?.getD undef = .pointer (some ⟨g', 0, none⟩) := by simpa using hp2
  simp [results, h, hp', hp2', asAddr, run_loadVar_row w g t ty cs fr d hg hu hd hi, run_loadVar_row w g' t' ty' cs' fr' d' hg2 hu2 hd2 hi2]
theorem put5 {w : World} {b T : Nat} {n k l s : Int} {t : Nat} (h : Blk w b T (ifC n k l s t)) : Blk (((((w.setCell ⟨b, 0, none⟩ (.int .i64 n)).setCell ⟨b, 1, none⟩ (.int .i64 k)).setCell ⟨b, 2, none⟩ (.int .i64 l)).setCell ⟨b, 3, none⟩ (.int .i64 s)).setCell ⟨b, 4, none⟩ (.int .u64 ((t : Nat) : Int))) b T (ifC n k l s t) := ((((h.put 0 _).put 1 _).put 2 _).put 3 _).put 4 _
theorem oth5 {w : World} {b b' T : Nat} {n k l s : Int} {t : Nat} {cs : Array Value} (h : Blk w b' T cs) (hne : b' ≠ b) : Blk (((((w.setCell ⟨b, 0, none⟩ (.int .i64 n)).setCell ⟨b, 1, none⟩ (.int .i64 k)).setCell ⟨b, 2, none⟩ (.int .i64 l)).setCell ⟨b, 3, none⟩ (.int .i64 s)).setCell ⟨b, 4, none⟩ (.int .u64 ((t : Nat) : Int))) b' T cs := ((((h.put_other 0 _ hne).put_other 1 _ hne).put_other 2 _ hne).put_other 3 _ hne).put_other 4 _ hne
theorem bel5 {w w0 : World} {b B : Nat} {n k l s : Int} {t : Nat} (h : Below B w0 w) (hb : B ≤ b) : Below B w0 (((((w.setCell ⟨b, 0, none⟩ (.int .i64 n)).setCell ⟨b, 1, none⟩ (.int .i64 k)).setCell ⟨b, 2, none⟩ (.int .i64 l)).setCell ⟨b, 3, none⟩ (.int .i64 s)).setCell ⟨b, 4, none⟩ (.int .u64 ((t : Nat) : Int))) := ((((h.setCell (p := ⟨b, 0, none⟩) hb _).setCell (p := ⟨b, 1, none⟩) hb _).setCell (p := ⟨b, 2, none⟩) hb _).setCell (p := ⟨b, 3, none⟩) hb _).setCell (p := ⟨b, 4, none⟩) hb _
section
variable {w w' : World} {xp : Value} {a b : Int}
set_option maxRecDepth 100000 in
set_option maxHeartbeats 4000000 in
theorem two_ok (n1 k1 l1 s1 n2 k2 l2 s2 : Int) (t1 t2 : Nat) (h1 : k1 ≠ 2) (h2 : k2 ≠ 2) (HA : ∀ V, Below w.heap.size w V → Calls Tryz.prog 24 #[xp, .int .i64 a] V fun e w' => e = .returned (.tuple #[.agg (ifC n1 k1 l1 s1 t1), .int .i64 0]) ∧ Below V.heap.size V w') (HB : ∀ V, Below w.heap.size w V → Calls Tryz.prog 24 #[xp, .int .i64 b] V fun e w' => e = .returned (.tuple #[.agg (ifC n2 k2 l2 s2 t2), .int .i64 0]) ∧ Below V.heap.size V w') : Calls Tryz.prog 41 #[xp, .int .i64 a, .int .i64 b] w fun e w' => e = .returned (.tuple #[.agg (ifC n1 k1 l1 s1 t1), .agg (ifC n2 k2 l2 s2 t2), .int .i64 0]) ∧ Below w.heap.size w w' := by
  have hb1 : Below w.heap.size w ((w.alloc (.cells if0 62)).alloc (.cells if0 62)) := ((Below.refl _ _).alloc (Nat.le_refl _) _).alloc (by simp) _
  have p1 : Blk ((w.alloc (.cells if0 62)).alloc (.cells if0 62)) w.heap.size 62 if0 := (Blk.new _ _ _).alloc _
  have q1 : Blk ((w.alloc (.cells if0 62)).alloc (.cells if0 62)) (w.heap.size + 1) 62 if0 := Blk.new1 _ _ _ _
  have g1 : (k1 == 2) = false := by simpa using h1
  have g2 : (k2 == 2) = false := by simpa using h2
  have hzi : ∀ w, (zeroValue 62).run Tryz.prog w = .ok (.agg if0) w := zero_info
  have HX : Hid ((∀ V, Below w.heap.size w V → Calls Tryz.prog 24 #[xp, .int .i64 a] V fun e w' => e = .returned (.tuple #[.agg (ifC n1 k1 l1 s1 t1), .int .i64 0]) ∧ Below V.heap.size V w') ∧ (∀ V, Below w.heap.size w V → Calls Tryz.prog 24 #[xp, .int .i64 b] V fun e w' => e = .returned (.tuple #[.agg (ifC n2 k2 l2 s2 t2), .int .i64 0]) ∧ Below V.heap.size V w')) := ⟨HA, HB⟩
  clear HA HB
  go_enter Tryz.func41, Tryz.ntmps41
  go_wp2_with fail
  generalize (w.alloc (.cells if0 62)).alloc (.cells if0 62) = w1 at *
  refine (HX.out.1 w1 hb1).mono ?_
  rintro e w2 ⟨rfl, hb2⟩
  have p2 := p1.below hb2 p1.lt
  have q2 := q1.below hb2 q1.lt
  have p3 := p2.set (ifC n1 k1 l1 s1 t1)
  have q3 : Blk (w2.setRow w.heap.size (ifC n1 k1 l1 s1 t1)) (w.heap.size + 1) 62 if0 := q2.other _ (by omega)
  have hb3 : Below w.heap.size w (w2.setRow w.heap.size (ifC n1 k1 l1 s1 t1)) := below_setRow (hb1.trans (hb2.mono hb1.size)) (Nat.le_refl _) _
  clear p1 q1 hb1 hb2
  go_wp2_with (first
    | (refine wpList_store_row (by rfl) 62 _ _ (by rfl) (w.heap.size) (ifC n1 k1 l1 s1 t1) (by rfl) (by rfl) 62 if0 (by exact p2) (sizeInfo.trans (by rfl)) (by rfl) (if_all _ _ _ _ _) ?_; simp only [Act.put, List.setIfInBounds_toArray, List.set_cons_zero, List.set_cons_succ])
    | fail)
  clear p2 q2
  generalize w2.setRow w.heap.size (ifC n1 k1 l1 s1 t1) = w3 at *
  refine (HX.out.2 w3 hb3).mono ?_
  rintro e w4 ⟨rfl, hb4⟩
  have p4 := p3.below hb4 p3.lt
  have q4 := q3.below hb4 q3.lt
  have q5 := q4.set (ifC n2 k2 l2 s2 t2)
  have p5 : Blk (w4.setRow (w.heap.size + 1) (ifC n2 k2 l2 s2 t2)) w.heap.size 62 (ifC n1 k1 l1 s1 t1) := p4.other _ (by omega)
  have hb5 : Below w.heap.size w (w4.setRow (w.heap.size + 1) (ifC n2 k2 l2 s2 t2)) := below_setRow (hb3.trans (hb4.mono hb3.size)) (by omega) _
  have c1 : (w4.setRow (w.heap.size + 1) (ifC n2 k2 l2 s2 t2)).cell? ⟨w.heap.size, 1, none⟩ = some (.int .i64 k1) := (p5.cell 1).trans rfl
  have c2 : (w4.setRow (w.heap.size + 1) (ifC n2 k2 l2 s2 t2)).cell? ⟨w.heap.size + 1, 1, none⟩ = some (.int .i64 k2) := (q5.cell 1).trans rfl
  clear p3 q3 hb3 hb4
  go_wp2_with (first
    | (refine wpList_store_row (by rfl) 62 _ _ (by rfl) (w.heap.size + 1) (ifC n2 k2 l2 s2 t2) (by rfl) (by rfl) 62 if0 (by exact q4) (sizeInfo.trans (by rfl)) (by rfl) (if_all _ _ _ _ _) ?_; simp only [Act.put, List.setIfInBounds_toArray, List.set_cons_zero, List.set_cons_succ])
    | fail)
  clear p4 q4
  generalize w4.setRow (w.heap.size + 1) (ifC n2 k2 l2 s2 t2) = w5 at *
  have pc0 : w5.cell? ⟨w.heap.size, 0, none⟩ = some (.int .i64 n1) := (p5.cell 0).trans rfl
  have pf0 : w5.frozen? ⟨w.heap.size, 0, none⟩ = false := p5.frozen 0
  have pc1 : w5.cell? ⟨w.heap.size, 1, none⟩ = some (.int .i64 k1) := (p5.cell 1).trans rfl
  have pf1 : w5.frozen? ⟨w.heap.size, 1, none⟩ = false := p5.frozen 1
  have pc2 : w5.cell? ⟨w.heap.size, 2, none⟩ = some (.int .i64 l1) := (p5.cell 2).trans rfl
  have pf2 : w5.frozen? ⟨w.heap.size, 2, none⟩ = false := p5.frozen 2
  have pc3 : w5.cell? ⟨w.heap.size, 3, none⟩ = some (.int .i64 s1) := (p5.cell 3).trans rfl
  have pf3 : w5.frozen? ⟨w.heap.size, 3, none⟩ = false := p5.frozen 3
  have pc4 : w5.cell? ⟨w.heap.size, 4, none⟩ = some (.int .u64 ((t1 : Nat) : Int)) := (p5.cell 4).trans rfl
  have pf4 : w5.frozen? ⟨w.heap.size, 4, none⟩ = false := p5.frozen 4
  have qc0 : w5.cell? ⟨w.heap.size + 1, 0, none⟩ = some (.int .i64 n2) := (q5.cell 0).trans rfl
  have qf0 : w5.frozen? ⟨w.heap.size + 1, 0, none⟩ = false := q5.frozen 0
  have qc1 : w5.cell? ⟨w.heap.size + 1, 1, none⟩ = some (.int .i64 k2) := (q5.cell 1).trans rfl
  have qf1 : w5.frozen? ⟨w.heap.size + 1, 1, none⟩ = false := q5.frozen 1
  have qc2 : w5.cell? ⟨w.heap.size + 1, 2, none⟩ = some (.int .i64 l2) := (q5.cell 2).trans rfl
  have qf2 : w5.frozen? ⟨w.heap.size + 1, 2, none⟩ = false := q5.frozen 2
  have qc3 : w5.cell? ⟨w.heap.size + 1, 3, none⟩ = some (.int .i64 s2) := (q5.cell 3).trans rfl
  have qf3 : w5.frozen? ⟨w.heap.size + 1, 3, none⟩ = false := q5.frozen 3
  have qc4 : w5.cell? ⟨w.heap.size + 1, 4, none⟩ = some (.int .u64 ((t2 : Nat) : Int)) := (q5.cell 4).trans rfl
  have qf4 : w5.frozen? ⟨w.heap.size + 1, 4, none⟩ = false := q5.frozen 4
  have HP6 := (oth5 (b := w.heap.size + 1) (n := n2) (k := k2) (l := l2) (s := s2) (t := t2) (put5 p5) (by omega)).drew
  have HQ6 := (put5 (oth5 (b := w.heap.size) (n := n1) (k := k1) (l := l1) (s := s1) (t := t1) q5 (by omega))).drew
  have HB6 := (bel5 (b := w.heap.size + 1) (n := n2) (k := k2) (l := l2) (s := s2) (t := t2) (bel5 (b := w.heap.size) (n := n1) (k := k1) (l := l1) (s := s1) (t := t1) hb5 (Nat.le_refl _)) (by omega)).drew
  have HE : Hid (Blk _ _ _ _ ∧ Blk _ _ _ _ ∧ Below _ _ _) := ⟨HP6, HQ6, HB6⟩
  clear HP6 HQ6 HB6 p5 q5 hb5
  go_region
  go_wp2_with fail
  try simp only [Exit.inBlock, Exit.then]
  refine bodyPost_ret (res_cct Tryz.results41 _ _ (w.heap.size) 62 (ifC n1 k1 l1 s1 t1) (0, 0) _ (w.heap.size + 1) 62 (ifC n2 k2 l2 s2 t2) (0, 0) _ rfl HE.out.1 Tryz.underlying62 rfl (sizeInfo.trans (by rfl)) rfl HE.out.2.1 Tryz.underlying62 rfl (sizeInfo.trans (by rfl))) rfl ?_
  exact ⟨rfl, HE.out.2.2⟩
end
end Go.Proofs.YtcmihdjbeihjbaaGreat

namespace Go.Proofs.YtcmihdjbeihjbaaGreat
open Go Go.RowKit
set_option linter.unusedSimpArgs false
set_option linter.unusedVariables false
section
variable {w w' : World} {xp : Value} {a : Int}
set_option maxRecDepth 100000 in
set_option maxHeartbeats 4000000 in
theorem one_gen (n1 k1 l1 s1 n2 k2 l2 s2 : Int) (t1 t2 : Nat) (er : Int) (HT : ∀ V, Below w.heap.size w V → Calls Tryz.prog 41 #[xp, .int .i64 a, .int .i64 a] V fun e w' => e = .returned (.tuple #[.agg (ifC n1 k1 l1 s1 t1), .agg (ifC n2 k2 l2 s2 t2), .int .i64 er]) ∧ Below V.heap.size V w') : Calls Tryz.prog 17 #[xp, .int .i64 a] w fun e w' => e = .returned (.tuple #[.agg (ifC n1 k1 l1 s1 t1), .int .i64 er]) ∧ Below w.heap.size w w' := by
  have hb1 : Below w.heap.size w (w.alloc (.cells if0 62)) := below_new1 _ _
  have p1 : Blk (w.alloc (.cells if0 62)) w.heap.size 62 if0 := Blk.new _ _ _
  have hzi : ∀ w, (zeroValue 62).run Tryz.prog w = .ok (.agg if0) w := zero_info
  have H1 := HT _ hb1
  clear HT
  go_enter Tryz.func17, Tryz.ntmps17
  go_wp2_with fail
  generalize (w.alloc (.cells if0 62)) = w1 at *
  refine H1.mono ?_
  rintro e w2 ⟨rfl, hb2⟩
  have p2 := p1.below hb2 p1.lt
  have hl2 := p2.lt
  have u1 : Blk ((w2.alloc (.cells if0 62)).alloc (.cells if0 62)) w2.heap.size 62 if0 := (Blk.new _ _ _).alloc _
  have v1 : Blk ((w2.alloc (.cells if0 62)).alloc (.cells if0 62)) (w2.heap.size + 1) 62 if0 := Blk.new1 _ _ _ _
  have p3 : Blk ((w2.alloc (.cells if0 62)).alloc (.cells if0 62)) w.heap.size 62 if0 := (p2.alloc _).alloc _
  have hb3 : Below w.heap.size w ((w2.alloc (.cells if0 62)).alloc (.cells if0 62)) := ((hb1.trans (hb2.mono hb1.size)).alloc (by have := hb1.size; have := hb2.size; omega) _).alloc (by have := hb1.size; have := hb2.size; simp; omega) _
  have u2 := u1.set (ifC n1 k1 l1 s1 t1)
  have v2 : Blk (((w2.alloc (.cells if0 62)).alloc (.cells if0 62)).setRow w2.heap.size (ifC n1 k1 l1 s1 t1)) (w2.heap.size + 1) 62 if0 := v1.other _ (by omega)
  have u3 : Blk ((((w2.alloc (.cells if0 62)).alloc (.cells if0 62)).setRow w2.heap.size (ifC n1 k1 l1 s1 t1)).setRow (w2.heap.size + 1) (ifC n2 k2 l2 s2 t2)) w2.heap.size 62 (ifC n1 k1 l1 s1 t1) := u2.other _ (by omega)
  have p4 : Blk ((((w2.alloc (.cells if0 62)).alloc (.cells if0 62)).setRow w2.heap.size (ifC n1 k1 l1 s1 t1)).setRow (w2.heap.size + 1) (ifC n2 k2 l2 s2 t2)) w.heap.size 62 if0 := (p3.other _ (by omega)).other _ (by omega)
  have HE : Hid (Blk (((((w2.alloc (.cells if0 62)).alloc (.cells if0 62)).setRow w2.heap.size (ifC n1 k1 l1 s1 t1)).setRow (w2.heap.size + 1) (ifC n2 k2 l2 s2 t2)).setRow w.heap.size (ifC n1 k1 l1 s1 t1)) w.heap.size 62 (ifC n1 k1 l1 s1 t1) ∧ Below w.heap.size w (((((w2.alloc (.cells if0 62)).alloc (.cells if0 62)).setRow w2.heap.size (ifC n1 k1 l1 s1 t1)).setRow (w2.heap.size + 1) (ifC n2 k2 l2 s2 t2)).setRow w.heap.size (ifC n1 k1 l1 s1 t1))) := ⟨p4.set _, below_setRow (below_setRow (below_setRow hb3 (by omega) _) (by omega) _) (Nat.le_refl _) _⟩
  clear p1 p2 p3 hb1 hb2 hb3
  go_wp2_with (first
    | (refine wpList_store_row (by rfl) 62 _ _ (by rfl) (w2.heap.size) (ifC n1 k1 l1 s1 t1) (by rfl) (by rfl) 62 if0 (by exact u1) (sizeInfo.trans (by rfl)) (by rfl) (if_all _ _ _ _ _) ?_; simp only [Act.put, List.setIfInBounds_toArray, List.set_cons_zero, List.set_cons_succ])
    | (refine wpList_store_row (by rfl) 62 _ _ (by rfl) (w2.heap.size + 1) (ifC n2 k2 l2 s2 t2) (by rfl) (by rfl) 62 if0 (by exact v2) (sizeInfo.trans (by rfl)) (by rfl) (if_all _ _ _ _ _) ?_; simp only [Act.put, List.setIfInBounds_toArray, List.set_cons_zero, List.set_cons_succ])
    | (refine wpList_store_row (by rfl) 62 _ _ (by rfl) (w.heap.size) (ifC n1 k1 l1 s1 t1) (by rfl) (by rfl) 62 if0 (by exact p4) (sizeInfo.trans (by rfl)) (by rfl) (if_all _ _ _ _ _) ?_; simp only [Act.put, List.setIfInBounds_toArray, List.set_cons_zero, List.set_cons_succ])
    | (refine wpList_load_row (by rfl) 62 _ (by rfl) (w2.heap.size) (by rfl) 62 (ifC n1 k1 l1 s1 t1) (0, 0) _ (by exact u3) Tryz.underlying62 (by rfl) (sizeInfo.trans (by rfl)) ?_; simp only [Act.put, List.setIfInBounds_toArray, List.set_cons_zero, List.set_cons_succ])
    | fail)
  try simp only [Exit.inBlock, Exit.then]
  refine bodyPost_ret (results_row2 Tryz.results17 _ _ (w.heap.size) 62 (ifC n1 k1 l1 s1 t1) (0, 0) _ rfl HE.out.1 Tryz.underlying62 rfl (sizeInfo.trans (by rfl))) rfl ?_
  exact ⟨rfl, HE.out.2⟩
end
theorem tooBig_any (a : Int) (n : Nat) (ha : -9223372036854775808 ≤ a ∧ a ≤ 9223372036854775807) (hn : n ≤ 140737488355328) (w : World) : Calls Tryz.prog 42 #[.int .i64 a, .int .i64 (n : Int)] w fun e w' => e = .returned (.bool (decide ((1048576 : Int) - (n : Int) < a))) ∧ w' = w := by
  have e1 : wrap64 ((1048576 : Int) - (n : Int)) = (1048576 : Int) - (n : Int) := by unfold wrap64; omega
  go_enter Tryz.func42, Tryz.ntmps42
  go_wp2_with fail
  go_ret
  exact ⟨rfl, rfl⟩
/-- how many bytes of a range are there -/
def thN (sz a m : Nat) : Nat := min m (sz - a)
set_option maxRecDepth 100000 in
theorem there_any (n sz st a m : Nat) (hs : sz ≤ 1048576) (ha : a ≤ 9223372036854775807) (hm : m ≤ 9223372036854775807) (w : World) : Calls Tryz.prog 34 #[.agg (fiC n sz st), .int .i64 (a : Int), .int .i64 (m : Int)] w fun e w' => e = .returned (.int .i64 (thN sz a m : Int)) ∧ Below w.heap.size w w' := by
  have hb1 : Below w.heap.size w (w.alloc (.cells (fiC n sz st) 62)) := below_new1 _ _
  have c3 := fi_c3 (Blk.new w 62 (fiC n sz st))
  obtain ⟨d, hd⟩ : ∃ d : Int, (sz : Int) - (a : Int) = d := ⟨_, rfl⟩
  have e1 : wrap64 d = d := by unfold wrap64; omega
  obtain ⟨t, ht⟩ : ∃ t : Nat, sz - a = t := ⟨_, rfl⟩
  have e2 : max (0 : Int) d = (t : Int) := by omega
  have HT : Hid ((thN sz a m : Int) = min (m : Int) (t : Int)) := by
    show (thN sz a m : Int) = min (m : Int) (t : Int)
    unfold thN
    omega
  clear ht
  go_enter Tryz.func34, Tryz.ntmps34
  go_wp2_with fail
  go_ret
  refine ⟨?_, hb1⟩
  rw [HT.out]
  rfl
end Go.Proofs.YtcmihdjbeihjbaaGreat

namespace Go.Proofs.YtcmihdjbeihjbaaGreat
open Go Go.RowKit
set_option linter.unusedSimpArgs false
set_option linter.unusedVariables false
theorem fi_all (n sz st : Nat) : (fiC n sz st).all (·.oneCell') = true := by simp [fiC, Value.oneCell']
theorem fi_cs {w : World} {b t n sz st : Nat} (H : Blk w b t (fiC n sz st)) : w.cell? ⟨b, 0, none⟩ = some (.int .i64 (n : Int)) ∧ w.cell? ⟨b, 1, none⟩ = some (.int .i64 1) ∧ w.cell? ⟨b, 2, none⟩ = some (.int .i64 1) ∧ w.cell? ⟨b, 3, none⟩ = some (.int .i64 (sz : Int)) ∧ w.cell? ⟨b, 4, none⟩ = some (.int .u64 ((st : Nat) : Int)) := ⟨(H.cell 0).trans rfl, (H.cell 1).trans rfl, (H.cell 2).trans rfl, (H.cell 3).trans rfl, (H.cell 4).trans rfl⟩
section
variable {w : World} {x mf ml mc : Nat} {cp : Option Addr} {top : Int} {H : Nat → Hd} {D : Nat → Nat → Nat → Nat} {n sz st n' sz' st' : Nat} {F F' : Nat → Nat}
theorem IM.twoF (h : IM w x mf ml mc cp top H D) (hf : Fi H D n sz st F) (hg : Fi H D n' sz' st' F') : Calls Tryz.prog 41 #[.pointer (some ⟨x, 0, none⟩), .int .i64 (n : Int), .int .i64 (n' : Int)] w fun e w' => e = .returned (.tuple #[.agg (fiC n sz st), .agg (fiC n' sz' st'), .int .i64 0]) ∧ Below w.heap.size w w' :=
  two_ok (n : Int) 1 1 (sz : Int) (n' : Int) 1 1 (sz' : Int) st st' (by decide) (by decide) (fun V hV => (h.below hV).getF hf) (fun V hV => (h.below hV).getF hg)
theorem IM.oneF (h : IM w x mf ml mc cp top H D) (hf : Fi H D n sz st F) : Calls Tryz.prog 17 #[.pointer (some ⟨x, 0, none⟩), .int .i64 (n : Int)] w fun e w' => e = .returned (.tuple #[.agg (fiC n sz st), .int .i64 0]) ∧ Below w.heap.size w w' :=
  one_gen (n : Int) 1 1 (sz : Int) (n : Int) 1 1 (sz : Int) st st 0 fun V hV => (h.below hV).twoF hf hf
set_option maxRecDepth 100000 in
theorem IM.sizeF (h : IM w x mf ml mc cp top H D) (hf : Fi H D n sz st F) : Calls Tryz.prog 25 #[.pointer (some ⟨x, 0, none⟩), .int .i64 (n : Int)] w fun e w' => e = .returned (.tuple #[.int .i64 (sz : Int), .int .i64 0]) ∧ Below w.heap.size w w' := by
  have H1 := h.oneF hf
  have hzi : ∀ w, (zeroValue 62).run Tryz.prog w = .ok (.agg if0) w := zero_info
  clear h hf
  go_enter Tryz.func25, Tryz.ntmps25
  go_wp2_with fail
  refine H1.mono ?_
  rintro e w2 ⟨rfl, hb2⟩
  have u1 : Blk (w2.alloc (.cells if0 62)) w2.heap.size 62 if0 := Blk.new _ _ _
  have u2 := u1.set (fiC n sz st)
  have c3 : ((w2.alloc (.cells if0 62)).setRow w2.heap.size (fiC n sz st)).cell? ⟨w2.heap.size, 3, none⟩ = some (.int .i64 (sz : Int)) := (u2.cell 3).trans rfl
  have HE : Hid (Below w.heap.size w ((w2.alloc (.cells if0 62)).setRow w2.heap.size (fiC n sz st))) := below_setRow (hb2.alloc hb2.size _) hb2.size _
  clear hb2 H1
  go_wp2_with (first
    | (refine wpList_store_row (by rfl) 62 _ _ (by rfl) (w2.heap.size) (fiC n sz st) (by rfl) (by rfl) 62 if0 (by exact u1) (sizeInfo.trans (by rfl)) (by rfl) (fi_all _ _ _) ?_; simp only [Act.put, List.setIfInBounds_toArray, List.set_cons_zero, List.set_cons_succ])
    | fail)
  go_ret2
  exact ⟨rfl, HE.out⟩
set_option maxRecDepth 100000 in
theorem IM.readBad (h : IM w x mf ml mc cp top H D) (hf : Fi H D n sz st F) (a m : Int) (hb : a < 0 ∨ m < 0) : Calls Tryz.prog 14 #[.pointer (some ⟨x, 0, none⟩), .int .i64 (n : Int), .int .i64 a, .int .i64 m] w fun e w' => e = .returned (.tuple #[.string ⟨#[]⟩, .int .i64 1]) ∧ Below w.heap.size w w' := by
  have H1 := h.oneF hf
  have hzi : ∀ w, (zeroValue 62).run Tryz.prog w = .ok (.agg if0) w := zero_info
  clear h hf
  go_enter Tryz.func14, Tryz.ntmps14
  go_wp2_with fail
  refine H1.mono ?_
  rintro e w2 ⟨rfl, hb2⟩
  have u1 : Blk (w2.alloc (.cells if0 62)) w2.heap.size 62 if0 := Blk.new _ _ _
  have u2 := u1.set (fiC n sz st)
  have c3 : ((w2.alloc (.cells if0 62)).setRow w2.heap.size (fiC n sz st)).cell? ⟨w2.heap.size, 3, none⟩ = some (.int .i64 (sz : Int)) := (u2.cell 3).trans rfl
  have HE : Hid (Below w.heap.size w ((w2.alloc (.cells if0 62)).setRow w2.heap.size (fiC n sz st))) := below_setRow (hb2.alloc hb2.size _) hb2.size _
  clear hb2 H1
  by_cases ha : a < 0
  · clear hb
    go_wp2_with (first
    | (refine wpList_store_row (by rfl) 62 _ _ (by rfl) (w2.heap.size) (fiC n sz st) (by rfl) (by rfl) 62 if0 (by exact u1) (sizeInfo.trans (by rfl)) (by rfl) (fi_all _ _ _) ?_; simp only [Act.put, List.setIfInBounds_toArray, List.set_cons_zero, List.set_cons_succ])
      | fail)
    go_ret2
    exact ⟨rfl, HE.out⟩
  · have hm : m < 0 := by omega
    clear hb
    go_wp2_with (first
    | (refine wpList_store_row (by rfl) 62 _ _ (by rfl) (w2.heap.size) (fiC n sz st) (by rfl) (by rfl) 62 if0 (by exact u1) (sizeInfo.trans (by rfl)) (by rfl) (fi_all _ _ _) ?_; simp only [Act.put, List.setIfInBounds_toArray, List.set_cons_zero, List.set_cons_succ])
      | fail)
    go_ret2
    exact ⟨rfl, HE.out⟩
set_option maxRecDepth 100000 in
set_option maxHeartbeats 4000000 in
theorem IM.readF (h : IM w x mf ml mc cp top H D) (hf : Fi H D n sz st F) (hF : ∀ p, p < sz → F p < 256) (a m : Nat) (ha : a ≤ 9223372036854775807) (hm : m ≤ 9223372036854775807) : Calls Tryz.prog 14 #[.pointer (some ⟨x, 0, none⟩), .int .i64 (n : Int), .int .i64 (a : Int), .int .i64 (m : Int)] w fun e w' => e = .returned (.tuple #[.string (strN (fun j => F (a + j)) (thN sz a m)), .int .i64 0]) ∧ Below w.heap.size w w' := by
  have H1 := h.oneF hf
  have hzi : ∀ w, (zeroValue 62).run Tryz.prog w = .ok (.agg if0) w := zero_info
  have HTX : Hid (∀ V, Below w.heap.size w V → Calls Tryz.prog 33 #[.pointer (some ⟨x, 0, none⟩), .agg (fiC n sz st), .int .i64 (a : Int), .int .i64 (thN sz a m : Int)] V fun e w' => e = .returned (.tuple #[.string (strN (fun j => F (a + j)) (thN sz a m)), .int .i64 0]) ∧ Below V.heap.size V w') := fun V hV => text_any (L := D n) hf.le hF (fun q i hi hp => hf.leaf q i hi hp) (fun U hU q hq => ((h.below hV).below hU).leafF hf q hq) a (thN sz a m) ha (by unfold thN; omega)
  have HTH : Hid (∀ V : World, Calls Tryz.prog 34 #[.agg (fiC n sz st), .int .i64 (a : Int), .int .i64 (m : Int)] V fun e w' => e = .returned (.int .i64 (thN sz a m : Int)) ∧ Below V.heap.size V w') := there_any n sz st a m hf.le ha hm
  have a0 : ¬ ((a : Int) < 0) := by omega
  have m0 : ¬ ((m : Int) < 0) := by omega
  clear h hf hF
  go_enter Tryz.func14, Tryz.ntmps14
  go_wp2_with fail
  refine H1.mono ?_
  rintro e w2 ⟨rfl, hb2⟩
  have u1 : Blk (w2.alloc (.cells if0 62)) w2.heap.size 62 if0 := Blk.new _ _ _
  have u2 := u1.set (fiC n sz st)
  have c3 : ((w2.alloc (.cells if0 62)).setRow w2.heap.size (fiC n sz st)).cell? ⟨w2.heap.size, 3, none⟩ = some (.int .i64 (sz : Int)) := (u2.cell 3).trans rfl
  have HE : Hid (Below w.heap.size w ((w2.alloc (.cells if0 62)).setRow w2.heap.size (fiC n sz st))) := below_setRow (hb2.alloc hb2.size _) hb2.size _
  clear hb2 H1
  have hS0 : Blk ((w2.alloc (.cells if0 62)).setRow w2.heap.size (fiC n sz st)).drew w2.heap.size 62 (fiC n sz st) := u2.drew
  go_wp2_with (first
    | (refine wpList_store_row (by rfl) 62 _ _ (by rfl) (w2.heap.size) (fiC n sz st) (by rfl) (by rfl) 62 if0 (by exact u1) (sizeInfo.trans (by rfl)) (by rfl) (fi_all _ _ _) ?_; simp only [Act.put, List.setIfInBounds_toArray, List.set_cons_zero, List.set_cons_succ])
    | fail)
  refine wp_region_plan (fun W => Blk W w2.heap.size 62 (fiC n sz st)) (.yield [0, 2, 4, 5] 1 (.force [] 3 (.force [] 6 (.force [] 7 (.fin [8, 9, 10, 11]))))) (by kernel_rfl) (by kernel_rfl) hS0 (plan_yield ?_)
  simp only [List.cons_append, List.nil_append, List.append_nil, List.filterMap_cons, List.filterMap_nil, List.getElem?_toArray, List.getElem?_cons_zero, List.getElem?_cons_succ]
  go_wp2_with fail
  refine ⟨rfl, _, .agg (fiC n sz st), rfl, Or.inl ⟨by rfl, fun W hW => by obtain ⟨d0, d1, d2, d3, d4⟩ := fi_cs hW; go_simp; rfl⟩, plan_force ?_⟩
  simp only [Act.put, List.setIfInBounds_toArray, List.set_cons_zero, List.set_cons_succ]
  simp only [List.cons_append, List.nil_append, List.append_nil, List.filterMap_cons, List.filterMap_nil, List.getElem?_toArray, List.getElem?_cons_zero, List.getElem?_cons_succ]
  (refine wpList_load_row (by rfl) 62 _ (by rfl) (w2.heap.size) (by rfl) 62 (fiC n sz st) (0, 0) _ (by exact hS0) Tryz.underlying62 (by rfl) (sizeInfo.trans (by rfl)) ?_; simp only [Act.put, List.setIfInBounds_toArray, List.set_cons_zero, List.set_cons_succ])
  go_wp2_with fail
  refine ⟨rfl, hS0, plan_force ?_⟩
  have hE := HE.out.drew
  clear HE u1 u2 c3
  generalize ((w2.alloc (.cells if0 62)).setRow w2.heap.size (fiC n sz st)).drew = w3 at *
  simp only [List.cons_append, List.nil_append, List.append_nil, List.filterMap_cons, List.filterMap_nil, List.getElem?_toArray, List.getElem?_cons_zero, List.getElem?_cons_succ]
  go_wp2_with fail
  refine (HTH.out w3).mono ?_
  rintro e w4 ⟨rfl, hb4⟩
  have hS4 : Blk w4 w2.heap.size 62 (fiC n sz st) := hS0.below hb4 hS0.lt
  have hE4 : Below w.heap.size w w4 := hE.trans (hb4.mono hE.size)
  have HT4 := HTX.out w4 hE4
  go_wp2_with fail
  refine ⟨rfl, hS4, plan_force ?_⟩
  simp only [List.cons_append, List.nil_append, List.append_nil, List.filterMap_cons, List.filterMap_nil, List.getElem?_toArray, List.getElem?_cons_zero, List.getElem?_cons_succ]
  go_wp2_with fail
  refine HT4.mono ?_
  rintro e w5 ⟨rfl, hb5⟩
  have hS5 : Blk w5 w2.heap.size 62 (fiC n sz st) := hS4.below hb5 hS4.lt
  have hE5 : Below w.heap.size w w5 := hE4.trans (hb5.mono hE4.size)
  go_wp2_with fail
  refine ⟨rfl, hS5, plan_fin ?_⟩
  simp only [List.cons_append, List.nil_append, List.append_nil, List.filterMap_cons, List.filterMap_nil, List.getElem?_toArray, List.getElem?_cons_zero, List.getElem?_cons_succ]
  go_wp2_with fail
  refine ⟨rfl, ?_⟩
  go_wp2_with fail
  go_ret2
  exact ⟨rfl, hE5⟩
end
end Go.Proofs.YtcmihdjbeihjbaaGreat
