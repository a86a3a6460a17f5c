/- Bytes, an inode, four inodes as arguments, opened: no condition but that they are ones. -/
import Derived.Test.YtpoaipoadokggaaHIoLeaf
import Derived.Handy
import Derived.Laws.BytesString
import Derived.Laws.BytesArg

namespace Go.Proofs.Ytpoaipoadokggaa
set_option maxRecDepth 20000
open Go Go.RowKit
set_option linter.unusedVariables false
set_option linter.unusedSimpArgs false
/-- the bytes of a leaf's place -/
def pcB (f : Nat → Nat) (p : Nat) : ByteArray := strN (fun j => f (p * 64 + j)) 64
def pcA (f : Nat → Nat) : Nat → Bool := fun p => decOk (pcB f p)
/-- what FromLeaf takes -/
def frL (f : Nat → Nat) : Nat → Ino := if bdF (pcA f) = 4 then fun p => decV (pcB f p) else fun _ => in0
def upL (f : Nat → Nat) (m : Nat) : Nat → Ino := fun p => if p < m then decV (pcB f p) else in0
theorem upL_step (f : Nat → Nat) (m : Nat) : foSet (upL f m) m (decV (pcB f m)) = upL f (m + 1) := by
  funext j
  unfold foSet upL
  by_cases h : j = m
  · subst h
    rw [if_pos rfl, if_pos (by omega)]
  · rw [if_neg h]
    by_cases h2 : j < m
    · rw [if_pos h2, if_pos (by omega)]
    · rw [if_neg h2, if_neg (by omega)]
theorem pcB_size (f : Nat → Nat) (p : Nat) : (pcB f p).size = 64 := strN_size _ _
set_option maxHeartbeats 4000000 in
theorem from14_any (f : Nat → Nat) (w : World) : Calls Try.prog 22 #[.agg (va 256 (iv .u8 f))] w fun e w' => e = .returned (.tuple #[.agg (foC (frL f)), .int .i64 (leA (pcA f)), .int .i64 (leE (pcA f))]) ∧ Below w.heap.size w w' := by
  have hz := zero_fo
  have hzi := zero_ino
  have H0 : Hid (Blk ((((w.alloc (.cells (va 256 (iv .u8 f)) 60)).alloc (.cells (foC fun _ => in0) 58)).alloc (.cells (foC fun _ => in0) 58))) w.heap.size 60 (va 256 (iv .u8 f)) ∧ Blk ((((w.alloc (.cells (va 256 (iv .u8 f)) 60)).alloc (.cells (foC fun _ => in0) 58)).alloc (.cells (foC fun _ => in0) 58))) (w.heap.size + 1) 58 (foC fun _ => in0) ∧ Blk ((((w.alloc (.cells (va 256 (iv .u8 f)) 60)).alloc (.cells (foC fun _ => in0) 58)).alloc (.cells (foC fun _ => in0) 58))) (w.heap.size + 1 + 1) 58 (foC fun _ => in0) ∧ Below w.heap.size w ((((w.alloc (.cells (va 256 (iv .u8 f)) 60)).alloc (.cells (foC fun _ => in0) 58)).alloc (.cells (foC fun _ => in0) 58)))) :=
    ⟨((Blk.new _ _ _).alloc _).alloc _, (Blk.new1 _ _ _ _).alloc _, by
      have := Blk.new ((w.alloc (.cells (va 256 (iv .u8 f)) 60)).alloc (.cells (foC fun _ => in0) 58)) 58 (foC fun _ => in0)
      rw [show ((w.alloc (.cells (va 256 (iv .u8 f)) 60)).alloc (.cells (foC fun _ => in0) 58)).heap.size = w.heap.size + 1 + 1 by simp] at this
      exact this, (below_new2 _ _ _).alloc (by simp; omega) _⟩
  have HBD : Hid (∀ p, p < 4 → (∀ q, q < p → decOk (pcB f q) = true) → decOk (pcB f p) = false → foC (frL f) = (foC fun _ => in0) ∧ leA (pcA f) = (p : Int) ∧ leE (pcA f) = 140) := fun p hp h1 h2 => by
    have hb := bd_bad (c := pcA f) hp h1 h2
    unfold frL leA leE
    rw [hb, if_neg (by omega), if_neg (by omega), if_neg (by omega)]
    exact ⟨rfl, rfl, rfl⟩
  have HGD : Hid ((∀ q, q < 4 → decOk (pcB f q) = true) → foC (frL f) = foC (upL f 4) ∧ leA (pcA f) = 0 ∧ leE (pcA f) = 0) := fun h1 => by
    have hb := bd_ok (c := pcA f) h1
    refine ⟨fo_congr fun i hi => ?_, ?_, ?_⟩
    · unfold frL upL
      rw [hb, if_pos rfl, if_pos hi]
    · unfold leA
      rw [hb]
      rfl
    · unfold leE
      rw [hb]
      rfl
  generalize foC (frL f) = OB at *
  generalize leA (pcA f) = OA at *
  generalize leE (pcA f) = OE at *
  go_enter Try.func22, Try.ntmps22
  go_wp2_with fail
  generalize ((((w.alloc (.cells (va 256 (iv .u8 f)) 60)).alloc (.cells (foC fun _ => in0) 58)).alloc (.cells (foC fun _ => in0) 58))) = w1 at *
  go_loopw [9] (fun i wr => Hid (∃ p : Nat, p ≤ 4 ∧ i = .int .i64 (p : Int) ∧ (∀ q, q < p → decOk (pcB f q) = true) ∧ Blk wr w.heap.size 60 (va 256 (iv .u8 f)) ∧ Blk wr (w.heap.size + 1) 58 (foC fun _ => in0) ∧ Blk wr (w.heap.size + 1 + 1) 58 (va 152 (foF (upL f p))) ∧ Below w.heap.size w wr)) (fun i _ => 4 - (intOf i).toNat)
  case atStart => exact ⟨0, by omega, rfl, fun q hq => by omega, H0.out.1, H0.out.2.1, H0.out.2.2.1, H0.out.2.2.2⟩
  case round =>
    obtain ⟨p, hp, rfl, hok, c0, c1, c2, hb⟩ := Hid.out hrel
    clear hrel H0
    by_cases h4 : p < 4
    · have p1 : (p : Int) < 4 := by omega
      have HDp : Hid (∀ c, Calls Try.prog 12 #[.slice (some ⟨w.heap.size, p * 64, none⟩) 64 c] wr fun e w' => e = .returned (.tuple #[.agg (inC (decV (pcB f p))), .int .i64 (decE (pcB f p))]) ∧ Below wr.heap.size wr w') := fun c => decode_any _ (pcB f p) (by rw [pcB_size]; decide) wr (IsB.own c0 (by omega))
      have HBDp := HBD.out p h4 hok
      have HOK : Hid (∀ q, q < p → decOk (pcB f q) = true) := hok
      have HB0 : Hid (Blk wr w.heap.size 60 (va 256 (iv .u8 f)) ∧ Blk wr (w.heap.size + 1) 58 (foC fun _ => in0) ∧ Blk wr (w.heap.size + 1 + 1) 58 (va 152 (foF (upL f p))) ∧ Below w.heap.size w wr) := ⟨c0, c1, c2, hb⟩
      have HEV : Hid (decE (pcB f p) = if decOk (pcB f p) = true then 0 else 140) := rfl
      have HU : Hid (va 152 (over (foF (upL f p)) (p * 38) (inC (decV (pcB f p))).toList) = va 152 (foF (upL f (p + 1)))) := by
        show _ = _
        rw [fo_over _ p _ h4, upL_step]
      clear c0 c1 c2 hb hok HBD HGD
      have a1 : (p : Int) * 64 ≤ 256 := by omega
      have a2 : (0 : Int) ≤ (p : Int) * 64 := by omega
      have a3 : ((p : Int) * 64).toNat = p * 64 := by omega
      go_wp2_with fail
      refine (HDp.out _).mono ?_
      intro e w2 hw2
      obtain ⟨he2, hb2⟩ := hw2
      subst he2
      have HB1 : Hid (Blk w2 w.heap.size 60 (va 256 (iv .u8 f)) ∧ Blk w2 (w.heap.size + 1) 58 (foC fun _ => in0) ∧ Blk w2 (w.heap.size + 1 + 1) 58 (va 152 (foF (upL f p))) ∧ Below w.heap.size w w2) := ⟨HB0.out.1.below hb2 HB0.out.1.lt, HB0.out.2.1.below hb2 HB0.out.2.1.lt, HB0.out.2.2.1.below hb2 HB0.out.2.2.1.lt, HB0.out.2.2.2.trans (hb2.mono HB0.out.2.2.2.size)⟩
      clear hb2 HB0 HDp
      generalize decE (pcB f p) = er at *
      have HRS : (inC (decV (pcB f p))).size = 38 := inC_size _
      have HRA : Hid ((inC (decV (pcB f p))).all (·.oneCell') = true) := inC_all _
      generalize inC (decV (pcB f p)) = rc at *
      have q1 : Blk (w2.alloc (.cells (inC in0) 31)) w2.heap.size 31 (inC in0) := Blk.new _ _ _
      have q2 : Blk ((w2.alloc (.cells (inC in0) 31)).setRow w2.heap.size rc) w2.heap.size 31 rc := q1.set _
      have d2 : Blk ((w2.alloc (.cells (inC in0) 31)).setRow w2.heap.size rc) (w.heap.size + 1 + 1) 58 (va 152 (foF (upL f p))) := (HB1.out.2.2.1.alloc _).other _ (by have := HB1.out.2.2.1.lt; omega)
      have d1 : Blk ((w2.alloc (.cells (inC in0) 31)).setRow w2.heap.size rc) (w.heap.size + 1) 58 (foC fun _ => in0) := (HB1.out.2.1.alloc _).other _ (by have := HB1.out.2.1.lt; omega)
      have HB2 : Hid (Blk ((w2.alloc (.cells (inC in0) 31)).setRow w2.heap.size rc) w.heap.size 60 (va 256 (iv .u8 f)) ∧ Below w.heap.size w ((w2.alloc (.cells (inC in0) 31)).setRow w2.heap.size rc)) := ⟨(HB1.out.1.alloc _).other _ (by have := HB1.out.1.lt; omega), below_setRow (HB1.out.2.2.2.alloc HB1.out.2.2.2.size _) HB1.out.2.2.2.size _⟩
      have hn2 : w.heap.size + 1 + 1 < w2.heap.size := HB1.out.2.2.1.lt
      clear HB1
      cases hc : decOk (pcB f p)
      · obtain ⟨e1, e2, e3⟩ := HBDp hc
        have HF : Hid (OB = (foC fun _ => in0) ∧ OA = (p : Int) ∧ OE = 140) := ⟨e1, e2, e3⟩
        have hr : er = 140 := by rw [HEV.out, hc]; rfl
        subst hr
        clear e1 e2 e3 HEV HBDp HU d2
        go_wp2_with (first
          | (refine wpList_store_row (by rfl) 31 _ _ (by rfl) (w2.heap.size) rc (by rfl) (by rfl) 31 (inC in0) (by exact q1) (sizeIno.trans (by rw [HRS])) (by simp only [inC_size, HRS]) (HRA.out) ?_; simp only [Act.put, List.setIfInBounds_toArray, List.set_cons_zero, List.set_cons_succ])
          | (refine wpList_store_row (by rfl) 58 _ _ (by rfl) (w.heap.size + 1) (foC fun _ => in0) (by rfl) (by rfl) 58 (foC fun _ => in0) (by exact d1) (sizeFo.trans (by rw [foC_size])) (by simp only [foC_size]) (foC_all _) ?_; simp only [Act.put, List.setIfInBounds_toArray, List.set_cons_zero, List.set_cons_succ])
          | fail)
        try simp only [Exit.inBlock, Exit.then]
        refine bodyPost_ret (res_row3 Try.results22 _ _ (w.heap.size + 1) 58 (foC fun _ => in0) (0, 0) _ rfl (d1.set _) Try.underlying58 rfl (sizeFo.trans (by rw [foC_size]))) rfl ?_
        exact ⟨by rw [HF.out.1, HF.out.2.1, HF.out.2.2]; rfl, below_setRow HB2.out.2 (by omega) _⟩
      · have hr : er = 0 := by rw [HEV.out, hc]; rfl
        subst hr
        have HOK2 : Hid (∀ q, q < p + 1 → decOk (pcB f q) = true) := fun q hq => by
          by_cases e : q = p
          · subst e; exact hc
          · exact HOK.out q (by omega)
        clear HEV HBDp HOK
        go_wp2_with (first
          | (refine wpList_store_row (by rfl) 31 _ _ (by rfl) (w2.heap.size) rc (by rfl) (by rfl) 31 (inC in0) (by exact q1) (sizeIno.trans (by rw [HRS])) (by simp only [inC_size, HRS]) (HRA.out) ?_; simp only [Act.put, List.setIfInBounds_toArray, List.set_cons_zero, List.set_cons_succ])
          | (refine wpList_load_row (by rfl) 31 _ (by rfl) (w2.heap.size) (by rfl) 31 rc (0, 0) _ (by exact q2) Try.underlying31 (by rfl) (sizeIno.trans (by rw [HRS])) ?_; simp only [Act.put, List.setIfInBounds_toArray, List.set_cons_zero, List.set_cons_succ])
          | (refine wpList_store_mid (by rfl) 31 _ _ (by rfl) (w.heap.size + 1 + 1) (p * 38) rc (by rfl) (by rfl) (by exact d2.there (p * 38) _ (by rw [HRS, va_size]; omega)) (sizeIno.trans (by rw [HRS])) (HRA.out) ?_; simp only [Act.put, List.setIfInBounds_toArray, List.set_cons_zero, List.set_cons_succ])
          | fail)
        go_roundw
        case rel =>
          refine ⟨p + 1, by omega, by simp, HOK2.out, HB2.out.1.cells_other (by omega) _ _ _, d1.cells_other (by omega) _ _ _, ?_, below_setCells (by omega) _ _ _ HB2.out.2⟩
          rw [← HU.out]
          exact d2.cells_put _ _ _
        case measure => simp [intOf]; omega
    · have e : p = 4 := by omega
      subst e
      obtain ⟨e1, e2, e3⟩ := HGD.out hok
      have HF : Hid (OB = foC (upL f 4) ∧ OA = 0 ∧ OE = 0) := ⟨e1, e2, e3⟩
      have HB4 : Hid (Below w.heap.size w wr) := hb
      have c2' : Blk wr (w.heap.size + 1 + 1) 58 (foC (upL f 4)) := c2
      clear e1 e2 e3 HBD HGD hok hb c2
      go_wp2_with (first
        | (refine wpList_load_row (by rfl) 58 _ (by rfl) (w.heap.size + 1 + 1) (by rfl) 58 (foC (upL f 4)) (0, 0) _ (by exact c2') Try.underlying58 (by rfl) (sizeFo.trans (by rw [foC_size])) ?_; simp only [Act.put, List.setIfInBounds_toArray, List.set_cons_zero, List.set_cons_succ])
        | (refine wpList_store_row (by rfl) 58 _ _ (by rfl) (w.heap.size + 1) (foC (upL f 4)) (by rfl) (by rfl) 58 (foC fun _ => in0) (by exact c1) (sizeFo.trans (by rw [foC_size])) (by simp only [foC_size]) (foC_all _) ?_; simp only [Act.put, List.setIfInBounds_toArray, List.set_cons_zero, List.set_cons_succ])
        | fail)
      try simp only [Exit.inBlock, Exit.then]
      refine bodyPost_ret (res_row3 Try.results22 _ _ (w.heap.size + 1) 58 (foC (upL f 4)) (0, 0) _ rfl (c1.set _) Try.underlying58 rfl (sizeFo.trans (by rw [foC_size]))) rfl ?_
      exact ⟨by rw [HF.out.1, HF.out.2.1, HF.out.2.2]; rfl, below_setRow HB4.out (by omega) _⟩
end Go.Proofs.Ytpoaipoadokggaa

namespace Go.Proofs.Ytpoaipoadokggaa
set_option maxRecDepth 20000
open Go Go.RowKit
set_option linter.unusedVariables false
set_option linter.unusedSimpArgs false
theorem le2_dig (n : Nat) (h : n < 65536) : le2 (dig n 0) (dig n 1) = n := by
  unfold le2 dig
  simp only [Nat.pow_zero, Nat.pow_one, Nat.div_one]
  omega
theorem le4_dig (n : Nat) (h : n < 4294967296) : le4 (dig n 0) (dig n 1) (dig n 2) (dig n 3) = n := by
  unfold le4 dig
  simp only [Nat.pow_zero, Nat.pow_one, Nat.div_one, show (256 : Nat) ^ 2 = 65536 from rfl, show (256 : Nat) ^ 3 = 16777216 from rfl]
  omega
theorem le8_dig (n : Nat) (h : n < 18446744073709551616) : le8 (dig n 0) (dig n 1) (dig n 2) (dig n 3) (dig n 4) (dig n 5) (dig n 6) (dig n 7) = n := by
  unfold le8 dig
  simp only [Nat.pow_zero, Nat.pow_one, Nat.div_one, show (256 : Nat) ^ 2 = 65536 from rfl, show (256 : Nat) ^ 3 = 16777216 from rfl, show (256 : Nat) ^ 4 = 4294967296 from rfl, show (256 : Nat) ^ 5 = 1099511627776 from rfl, show (256 : Nat) ^ 6 = 281474976710656 from rfl, show (256 : Nat) ^ 7 = 72057594037927936 from rfl]
  omega
theorem enc_byte (x : Ino) (hx : okD x.r.2) (j : Nat) (hj : j < 64) : tbyte (strN (inB x) 64) j = inB x j := strN_at _ _ _ hj (inB_lt x hx j)
theorem enc_size (x : Ino) : (strN (inB x) 64).size = 64 := strN_size _ _
theorem enc_k (x : Ino) (hx : okD x.r.2) (h : 0 ≤ x.k ∧ x.k < 65536) : ((at2 (strN (inB x) 64) 0 : Nat) : Int) = x.k := by
  unfold at2
  rw [enc_byte x hx 0 (by decide), enc_byte x hx 1 (by decide), show inB x 0 = dig x.k.toNat 0 from rfl, show inB x 1 = dig x.k.toNat 1 from rfl, le2_dig _ (by omega)]
  omega
theorem enc_l (x : Ino) (hx : okD x.r.2) (h : 0 ≤ x.l ∧ x.l < 65536) : ((at2 (strN (inB x) 64) 2 : Nat) : Int) = x.l := by
  unfold at2
  rw [enc_byte x hx 2 (by decide), enc_byte x hx 3 (by decide), show inB x 2 = dig x.l.toNat 0 from rfl, show inB x 3 = dig x.l.toNat 1 from rfl, le2_dig _ (by omega)]
  omega
theorem enc_h (x : Ino) (hx : okD x.r.2) (h : 0 ≤ x.h ∧ x.h < 65536) : ((at2 (strN (inB x) 64) 4 : Nat) : Int) = x.h := by
  unfold at2
  rw [enc_byte x hx 4 (by decide), enc_byte x hx 5 (by decide), show inB x 4 = dig x.h.toNat 0 from rfl, show inB x 5 = dig x.h.toNat 1 from rfl, le2_dig _ (by omega)]
  omega
theorem enc_s (x : Ino) (hx : okD x.r.2) (h : 0 ≤ x.s ∧ x.s < 65536 * 65536) : ((at8 (strN (inB x) 64) 8 : Nat) : Int) = x.s := by
  unfold at8
  rw [enc_byte x hx 8 (by decide), enc_byte x hx (8 + 1) (by decide), enc_byte x hx (8 + 2) (by decide), enc_byte x hx (8 + 3) (by decide), enc_byte x hx (8 + 4) (by decide), enc_byte x hx (8 + 5) (by decide), enc_byte x hx (8 + 6) (by decide), enc_byte x hx (8 + 7) (by decide),
    show inB x 8 = dig x.s.toNat 0 from rfl, show inB x (8 + 1) = dig x.s.toNat 1 from rfl, show inB x (8 + 2) = dig x.s.toNat 2 from rfl, show inB x (8 + 3) = dig x.s.toNat 3 from rfl, show inB x (8 + 4) = dig x.s.toNat 4 from rfl, show inB x (8 + 5) = dig x.s.toNat 5 from rfl, show inB x (8 + 6) = dig x.s.toNat 6 from rfl, show inB x (8 + 7) = dig x.s.toNat 7 from rfl, le8_dig _ (by omega)]
  omega
theorem enc_t (x : Ino) (hx : okD x.r.2) (h : x.t < 18446744073709551616) : at8 (strN (inB x) 64) 16 = x.t := by
  unfold at8
  rw [enc_byte x hx 16 (by decide), enc_byte x hx (16 + 1) (by decide), enc_byte x hx (16 + 2) (by decide), enc_byte x hx (16 + 3) (by decide), enc_byte x hx (16 + 4) (by decide), enc_byte x hx (16 + 5) (by decide), enc_byte x hx (16 + 6) (by decide), enc_byte x hx (16 + 7) (by decide),
    show inB x 16 = dig x.t 0 from rfl, show inB x (16 + 1) = dig x.t 1 from rfl, show inB x (16 + 2) = dig x.t 2 from rfl, show inB x (16 + 3) = dig x.t 3 from rfl, show inB x (16 + 4) = dig x.t 4 from rfl, show inB x (16 + 5) = dig x.t 5 from rfl, show inB x (16 + 6) = dig x.t 6 from rfl, show inB x (16 + 7) = dig x.t 7 from rfl, le8_dig _ h]
theorem enc_r (x : Ino) (hx : okD x.r.2) (h : x.r.1 < 4294967296) : decR (strN (inB x) 64) 24 = x.r := by
  unfold decR
  have h1 : at4 (strN (inB x) 64) 24 = x.r.1 := by
    unfold at4
    rw [enc_byte x hx 24 (by decide), enc_byte x hx (24 + 1) (by decide), enc_byte x hx (24 + 2) (by decide), enc_byte x hx (24 + 3) (by decide),
      show inB x 24 = dig x.r.1 0 from rfl, show inB x (24 + 1) = dig x.r.1 1 from rfl, show inB x (24 + 2) = dig x.r.1 2 from rfl, show inB x (24 + 3) = dig x.r.1 3 from rfl, le4_dig _ h]
  have h2 : (sumD fun i => tbyte (strN (inB x) 64) (24 + 4 + i)) = x.r.2 := by
    refine dF_inj fun i hi => ?_
    rw [dF_sumD _ i hi, enc_byte x hx _ (by omega)]
    unfold inB encR
    rw [if_neg (by omega), if_neg (by omega), if_neg (by omega), if_neg (by omega), if_neg (by omega), if_neg (by omega), if_pos (by omega), if_neg (by omega), show 24 + 4 + i - 24 - 4 = i by omega]
  rw [h1, h2]
theorem prt_enc (x : Ino) (hx : InW x) (hc : chk x = true) : prt (strN (inB x) 64) = x := by
  obtain ⟨b1, b2, b3, b4, b5, b6⟩ := chk_small hc
  have hz := enc_size x
  unfold prt tk2 tk8 tkR
  rw [hz, if_pos (by decide), if_pos (by decide), if_pos (by decide), if_pos (by decide), if_pos (by decide), enc_r x hx.d hx.a, if_pos ⟨by decide, b6⟩, enc_k x hx.d (by omega), enc_l x hx.d (by omega), enc_h x hx.d (by omega), enc_t x hx.d hx.t]
  have hs := enc_s x hx.d (by omega)
  have hs2 : ((szI (at8 (strN (inB x) 64) 8) : Nat) : Int) = x.s := by
    unfold szI
    rw [if_pos (by omega)]
    exact hs
  rw [hs2]
theorem dec_enc (x : Ino) (hx : InW x) (hc : chk x = true) : decOk (strN (inB x) 64) = true ∧ decV (strN (inB x) 64) = x ∧ decE (strN (inB x) 64) = 0 := by
  have hp := prt_enc x hx hc
  have hk : decOk (strN (inB x) 64) = true := by
    unfold decOk
    rw [hp, hc, decide_eq_true rfl]
    rfl
  refine ⟨hk, ?_, ?_⟩
  · unfold decV
    rw [hk, if_pos rfl, hp]
  · unfold decE
    rw [hk]
    rfl
theorem dec_back (s : ByteArray) (h : decOk s = true) : decV s = prt s ∧ chk (prt s) = true ∧ strN (inB (prt s)) 64 = s := by
  have h' := h
  unfold decOk at h'
  rw [Bool.and_eq_true, decide_eq_true_eq] at h'
  exact ⟨by unfold decV; rw [h, if_pos rfl], h'.1, h'.2⟩
theorem decV_w (s : ByteArray) : InW (decV s) := by
  unfold decV
  split
  · exact prt_w s
  · exact in0_w
theorem pc_leaf (L : Nat → Ino) (p : Nat) (hp : p < 4) : pcB (lfF L 4) p = strN (inB (L p)) 64 := strN_congr fun j hj => by
  unfold lfF
  rw [if_pos (by omega), show (p * 64 + j) / 64 = p by omega, show (p * 64 + j) % 64 = j by omega]
theorem from_leaf (L : Nat → Ino) (hL : ∀ i, i < 4 → InW (L i)) (h : ∀ i, i < 4 → chk (L i) = true) : (∀ i, i < 4 → frL (lfF L 4) i = L i) ∧ leE (pcA (lfF L 4)) = 0 := by
  have hb : bdF (pcA (lfF L 4)) = 4 := bd_ok fun p hp => by
    unfold pcA
    rw [pc_leaf L p hp]
    exact (dec_enc (L p) (hL p hp) (h p hp)).1
  refine ⟨fun i hi => ?_, ?_⟩
  · unfold frL
    rw [hb, if_pos rfl, pc_leaf L i hi]
    exact (dec_enc (L i) (hL i hi) (h i hi)).2.1
  · unfold leE
    rw [hb]
    rfl
theorem inB_zero (j : Nat) (hj : j < 64) : inB in0 j = 0 := by
  have hd : ∀ i, dig 0 i = 0 := fun i => by unfold dig; simp
  have e0 : ∀ i, dF (Vector.replicate 32 0) i = 0 := fun i => by
    unfold dF
    by_cases hi : i < 32
    · simp [hi]
    · rw [Vector.getElem?_eq_none (by omega)]; rfl
  unfold inB
  show (if j < 2 then dig 0 j else if j < 4 then dig 0 (j - 2) else if j < 6 then dig 0 (j - 4) else if j < 8 then 0 else if j < 16 then dig 0 (j - 8) else if j < 24 then dig 0 (j - 16) else if j < 60 then encR rf0 (j - 24) else 0) = 0
  rw [hd, hd, hd, hd, hd]
  unfold encR
  show (if j < 2 then 0 else if j < 4 then 0 else if j < 6 then 0 else if j < 8 then 0 else if j < 16 then 0 else if j < 24 then 0 else if j < 60 then (if j - 24 < 4 then dig 0 (j - 24) else dF (Vector.replicate 32 0) (j - 24 - 4)) else 0) = 0
  rw [hd, e0]
  simp
theorem in0_chk : chk in0 = true := by unfold chk; simp
theorem from_zero : (∀ i, i < 4 → frL (fun _ => 0) i = in0) ∧ leE (pcA fun _ => 0) = 0 := by
  have hp : ∀ p, pcB (fun _ => 0) p = strN (inB in0) 64 := fun p => strN_congr fun j hj => (inB_zero j hj).symm
  have hd := dec_enc in0 in0_w in0_chk
  have hb : bdF (pcA fun _ => 0) = 4 := bd_ok fun p _ => by
    unfold pcA
    rw [hp]
    exact hd.1
  refine ⟨fun i _ => ?_, ?_⟩
  · unfold frL
    rw [hb, if_pos rfl, hp]
    exact hd.2.1
  · unfold leE
    rw [hb]
    rfl
end Go.Proofs.Ytpoaipoadokggaa

namespace Go.Proofs.Ytpoaipoadokggaa
open Go.ChangeShapes Go.WideShapes Go.ChangeAt Go.RowKit Go.Joins
set_option linter.unusedVariables false
set_option linter.unusedSimpArgs false
/-- a slice of bytes that came in -/
def IsB8 (w : World) (a : Option Addr) (N : Nat) (A : Nat → Nat) : Prop :=
  ∀ i, i < N → A i < 256 ∧ ∃ b o, a = some ⟨b, o, none⟩ ∧ b < w.heap.size ∧ w.cell? ⟨b, o + i, none⟩ = some (.int .u8 (A i : Int))
theorem IsB8.below {w w' : World} {a : Option Addr} {N : Nat} {A : Nat → Nat} (h : IsB8 w a N A) (hb : Below w.heap.size w w') : IsB8 w' a N A := fun i hi => by
  obtain ⟨h0, b, o, e, h1, h2⟩ := h i hi
  exact ⟨h0, b, o, e, Nat.lt_of_lt_of_le h1 hb.size, (hb.cell h1).trans h2⟩
theorem IsB8.isB {w : World} {a : Option Addr} {N c : Nat} {A : Nat → Nat} (h : IsB8 w a N A) : IsB w (.slice a N c) (strN A N) := fun W hW => by
  by_cases h0 : 0 < N
  · obtain ⟨_, b, o, rfl, _, _⟩ := h 0 h0
    have h2 := h.below hW
    exact run_convert_bytes_arg W 32 5 Try.underlying32 Try.underlying5 b o N c ((List.range N).map fun i => (A i : Int)) (by simp) (fun i hi => by
      obtain ⟨_, b', o', e, _, h3⟩ := h2 i hi
      cases e
      rw [h3]
      simp [List.getD_eq_getElem?_getD, hi]) 9 Try.underlying9
  · obtain rfl : N = 0 := by omega
    rw [run_convert_bytes_string W 32 9 5 a 0 c Try.underlying32 Try.underlying5 Try.underlying9]
    cases a <;> first | rfl | simp [Conv.bytesToString, strN]
set_option maxRecDepth 100000 in
theorem open_b8s {H : Type} {enc : TypeId × Value → H} {W : World} {a0 : Option Addr} {len cap fuel : Nat} {x : DataW H × List MemPlace}
    (hf : DataW.trod enc Try.prog W 0 (fun _ => true) true fuel 32 [.slice a0 len cap] = some x) (hsz : ∀ n ∈ x.1.weights Try.prog 32, n ≤ reachBytes) :
    ∃ (A : Nat → Nat), len ≤ 140737488351232 ∧ IsB8 W a0 len A ∧ (a0 = none → len = 0 ∧ cap = 0) := by
  rcases Deep.open_slice Try.underlying32 hf with ⟨hcs, hx⟩ | ⟨a, len', cap', m, n, D, Pl, hcs, _, hl, hm, hmm, hx, hel⟩
  · simp at hcs
    obtain ⟨rfl, rfl, rfl⟩ := hcs
    exact ⟨fun _ => 0, by omega, fun i hi => absurd hi (by omega), fun _ => ⟨rfl, rfl⟩⟩
  · simp at hcs
    obtain ⟨rfl, rfl, rfl⟩ := hcs
    subst hx
    simp only [if_true] at hmm
    subst hmm
    have hu := Try.underlying32
    have hby : Try.prog.bytesOf 5 = 1 := by kernel_rfl
    have hw0 := hsz ((((List.range len).map D).length + ((List.range (m - len)).map fun j => D (len + j)).length) * Try.prog.bytesOf 5) (by simp [DataW.weights, hu])
    rw [hby] at hw0
    simp only [List.length_map, List.length_range] at hw0
    have hlen4 : len ≤ 140737488351232 := by
      unfold reachBytes at hw0
      omega
    have hce : Try.prog.cellsOf 5 = 1 := by kernel_rfl
    have hsp : 0 < len → a.spot = none := fun h0 => by
      obtain ⟨cs', h1, _⟩ := hel 0 (by omega)
      rw [hce] at h1
      obtain ⟨_, hcl, hcell⟩ := World.cells?_some h1
      match cs', hcl with
      | [v0], _ => simpa [Addr.add] using World.cell?_spot (hcell 0 (by omega))
    have each : ∀ i, ∃ q : Nat, i < len → q < 256 ∧ ∃ b o, a = ⟨b, o, none⟩ ∧ b < W.heap.size ∧ W.cell? ⟨b, o + i, none⟩ = some (.int .u8 (q : Int)) := by
      intro i
      by_cases hi : i < len
      · obtain ⟨cs', h1, h2⟩ := hel i (by omega)
        rw [hce] at h1
        obtain ⟨_, hcl, hcell⟩ := World.cells?_some h1
        match cs', hcl with
        | [v0], _ =>
          obtain ⟨p, e0, _, w0⟩ := DataW.trod_int Try.underlying5 h2
          simp at e0
          subst e0
          have hbd := bounds_u8 w0
          obtain ⟨q, rfl⟩ := Int.eq_ofNat_of_zero_le hbd.1
          refine ⟨q, fun _ => ⟨by omega, ?_⟩⟩
          have c0 := hcell 0 (by decide)
          obtain ⟨b, off, spot⟩ := a
          have hspot : spot = none := hsp (by omega)
          subst hspot
          simp only [Addr.add_mid, List.getElem?_cons_zero, Nat.mul_one, Nat.add_zero] at c0
          exact ⟨b, off, rfl, kcell_lt c0, c0⟩
      · exact ⟨0, fun h => absurd h hi⟩
    refine ⟨fun i => Classical.choose (each i), hlen4, fun i hi => ?_, fun h => by cases h⟩
    obtain ⟨hq, b, o, rfl, h1, h2⟩ := Classical.choose_spec (each i) hi
    exact ⟨hq, b, o, rfl, h1, h2⟩
set_option maxRecDepth 100000 in
theorem open_ino_cells {H : Type} {enc : TypeId × Value → H} {W : World} {fuel : Nat} {l : List Value} {x : DataW H × List MemPlace} (hl : l.length = 38)
    (hf : DataW.trod enc Try.prog W 0 (fun _ => true) true fuel 31 l = some x) : ∃ y : Ino, l = (inC y).toList ∧ InW y := by
  have hc8 : Try.prog.cellsOf 3 = 1 := by kernel_rfl
  have hcu : Try.prog.cellsOf 22 = 1 := by kernel_rfl
  have hct : Try.prog.cellsOf 29 = 34 := by kernel_rfl
  have hcr : Try.prog.cellsOf 27 = 33 := by kernel_rfl
  obtain ⟨xs, k, hk, hxy, _, hxl, hfs⟩ := DataW.trod_struct Try.underlying31 hf
  match xs, hxl with
  | [y0, y1, y2, y3, y4], _ =>
    have g0 : DataW.trod enc Try.prog W 0 (fun _ => true) true k 3 ((l.drop 0).take (Try.prog.cellsOf 3)) = some y0 := hfs 0 _ rfl
    have g1 : DataW.trod enc Try.prog W 0 (fun _ => true) true k 3 ((l.drop 1).take (Try.prog.cellsOf 3)) = some y1 := hfs 1 _ rfl
    have g2 : DataW.trod enc Try.prog W 0 (fun _ => true) true k 3 ((l.drop 2).take (Try.prog.cellsOf 3)) = some y2 := hfs 2 _ rfl
    have g3 : DataW.trod enc Try.prog W 0 (fun _ => true) true k 22 ((l.drop 3).take (Try.prog.cellsOf 22)) = some y3 := hfs 3 _ rfl
    have g4 : DataW.trod enc Try.prog W 0 (fun _ => true) true k 29 ((l.drop 4).take (Try.prog.cellsOf 29)) = some y4 := hfs 4 _ rfl
    rw [hc8] at g0 g1 g2
    rw [hcu] at g3
    rw [hct] at g4
    obtain ⟨c0, e0, _, w0⟩ := DataW.trod_int Try.underlying3 g0
    obtain ⟨c1, e1, _, w1⟩ := DataW.trod_int Try.underlying3 g1
    obtain ⟨c2, e2, _, w2⟩ := DataW.trod_int Try.underlying3 g2
    obtain ⟨c3, e3, _, w3⟩ := DataW.trod_int Try.underlying22 g3
    have b0 := bounds_i64 w0
    have b1 := bounds_i64 w1
    have b2 := bounds_i64 w2
    have b3 := bounds_u64 w3
    have l0 : l[0]? = some (.int .i64 c0) := nd_take_one e0
    have l1 : l[1]? = some (.int .i64 c1) := nd_take_one e1
    have l2 : l[2]? = some (.int .i64 c2) := nd_take_one e2
    have l3 : l[3]? = some (.int .u64 c3) := nd_take_one e3
    obtain ⟨zs, m, hm, hzy, _, hzl, hgs⟩ := DataW.trod_struct Try.underlying29 g4
    match zs, hzl with
    | [z0, z1], _ =>
      have q0 : DataW.trod enc Try.prog W 0 (fun _ => true) true m 3 ((((l.drop 4).take 34).drop 0).take (Try.prog.cellsOf 3)) = some z0 := hgs 0 _ rfl
      have q1 : DataW.trod enc Try.prog W 0 (fun _ => true) true m 27 ((((l.drop 4).take 34).drop 1).take (Try.prog.cellsOf 27)) = some z1 := hgs 1 _ rfl
      rw [hc8] at q0
      rw [hcr] at q1
      obtain ⟨c4, e4, _, w4⟩ := DataW.trod_int Try.underlying3 q0
      have b4 := bounds_i64 w4
      have l4 : l[4]? = some (.int .i64 c4) := by
        have := nd_take_one e4
        rw [List.getElem?_take, if_pos (by decide), List.getElem?_drop] at this
        exact this
      obtain ⟨r, h0, h1, h2⟩ := open_ref_cells (by rw [List.length_take, List.length_drop, List.length_take, List.length_drop, hl]; decide) q1
      refine ⟨⟨c0, c1, c2, c3.toNat, c4, r⟩, ?_, ⟨b0, b1, b2, by show c3.toNat < _; omega, b4, h1, h2⟩⟩
      apply List.ext_getElem?
      intro i
      by_cases hi : i < 38
      · have hr : (inC ⟨c0, c1, c2, c3.toNat, c4, r⟩).toList[i]? = some (inF ⟨c0, c1, c2, c3.toNat, c4, r⟩ i) := by
          have := va_at (inF ⟨c0, c1, c2, c3.toNat, c4, r⟩) hi
          unfold inC
          simpa using this
        rw [hr]
        unfold inF tiF
        by_cases i0 : i = 0
        · subst i0
          rw [if_pos rfl, l0]
        rw [if_neg i0]
        by_cases i1 : i = 1
        · subst i1
          rw [if_pos rfl, l1]
        rw [if_neg i1]
        by_cases i2 : i = 2
        · subst i2
          rw [if_pos rfl, l2]
        rw [if_neg i2]
        by_cases i3 : i = 3
        · subst i3
          rw [if_pos rfl, l3]
          congr 2
          show c3 = ((c3.toNat : Nat) : Int)
          omega
        rw [if_neg i3]
        by_cases i4 : i = 4
        · subst i4
          rw [if_pos rfl, l4]
        rw [if_neg (by omega)]
        have h4 := congrArg (fun z => z[i - 5]?) h0
        simp only [List.getElem?_take, List.getElem?_drop] at h4
        rw [if_pos (by omega), if_pos (by omega), show 4 + (1 + (i - 5)) = i by omega] at h4
        rw [h4, show i - 4 - 1 = i - 5 by omega]
        have := va_at (rfF r.1 r.2) (show i - 5 < 33 by omega)
        unfold rfC
        simpa using this
      · rw [List.getElem?_eq_none (by omega), List.getElem?_eq_none (by rw [Array.length_toList, inC_size]; omega)]
set_option maxRecDepth 100000 in
theorem open_inos {H : Type} {enc : TypeId × Value → H} {W : World} {r : Reach} {b0 : Nat} {v : Value} {d : DataW H} {p : List MemPlace}
    (hv : Value.okWide Try.prog W r b0 58 v) (h : DataW.Trod enc Try.prog W 0 (fun _ => true) true 58 v d p) : ∃ L : Nat → Ino, v = .agg (foC L) ∧ ∀ i, i < 4 → InW (L i) := by
  obtain ⟨cs, rfl, hcs⟩ := okWide_array Try.underlying58 hv
  obtain ⟨fuel, hf0⟩ := h
  have hc : Try.prog.cellsOf 58 = 152 := by kernel_rfl
  have hci : Try.prog.cellsOf 31 = 38 := by kernel_rfl
  rw [hc] at hcs
  have hl : cs.toList.length = 152 := by rw [Array.length_toList]; exact hcs
  have hf : DataW.trod enc Try.prog W 0 (fun _ => true) true fuel 58 cs.toList = some (d, p) := hf0
  obtain ⟨zs, m, hm, hx, hzl, hn, hall⟩ := DataW.trod_array Try.underlying58 hf
  have each : ∀ i, i < 4 → ∃ y : Ino, ((cs.toList.drop (i * 38)).take 38) = (inC y).toList ∧ InW y := fun i hi => by
    have h1 := hall i hi
    have hget : zs[i]? = some zs[i] := List.getElem?_eq_getElem (by omega)
    rw [hget, hci] at h1
    refine open_ino_cells ?_ h1
    rw [List.length_take, List.length_drop, hl]
    omega
  obtain ⟨L, hLz⟩ : ∃ L : Nat → Ino, ∀ i, i < 4 → ((cs.toList.drop (i * 38)).take 38) = (inC (L i)).toList ∧ InW (L i) := ⟨fun i => if h : i < 4 then Classical.choose (each i h) else in0, fun i hi => by
    simp only [dif_pos hi]
    exact Classical.choose_spec (each i hi)⟩
  refine ⟨L, ?_, fun i hi => (hLz i hi).2⟩
  congr 1
  apply Array.toList_inj.1
  apply List.ext_getElem?
  intro j
  by_cases hj : j < 152
  · have hr : (foC L).toList[j]? = some (foF L j) := by
      have := va_at (foF L) hj
      unfold foC
      simpa using this
    rw [hr]
    obtain ⟨i, q, hq, rfl⟩ : ∃ i q, q < 38 ∧ j = i * 38 + q := ⟨j / 38, j % 38, Nat.mod_lt _ (by decide), by omega⟩
    have hi : i < 4 := by omega
    rw [foF_at L i q hq]
    have h2 := (hLz i hi).1
    have h3 : (inC (L i)).toList[q]? = some (inF (L i) q) := by
      have := va_at (inF (L i)) hq
      unfold inC
      simpa using this
    rw [← h2, List.getElem?_take, if_pos hq, List.getElem?_drop] at h3
    exact h3
  · rw [List.getElem?_eq_none (by omega), List.getElem?_eq_none (by rw [Array.length_toList, foC_size]; omega)]
end Go.Proofs.Ytpoaipoadokggaa
