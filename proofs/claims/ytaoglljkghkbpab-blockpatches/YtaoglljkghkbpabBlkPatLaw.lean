/- The statement BlockPatches, if what it calls returns what it does. -/
import Derived.Test.YtaoglljkghkbpabBlkPatMath
import Derived.Test.YtaoglljkghkbpabBlkTake
import Derived.BigQuiet
import Derived.Deep.QuietTactic
import Derived.Handy
namespace Go.Proofs.Ytaoglljkghkbpab
open Go.RowKit
set_option linter.unusedSimpArgs false
set_option linter.unusedVariables false

theorem PatL.next {f g : Nat → Nat} {k : Nat} {r : List (Nat × Nat)} (h : PatL f g k r) (hk : k < 256) (he : f k = g k) : PatL f g (k + 1) r := by
  cases h with
  | done h1 => omega
  | skip _ _ h3 => exact h3
  | take h1 h2 _ => exact absurd he (h2.2.2.1 _ (Nat.le_refl _) h1)
theorem PatL.first {f g : Nat → Nat} {k e : Nat} {r : List (Nat × Nat)} (h : PatL f g k r) (hk : k < 256) (hd : f k ≠ g k) (he : EndIs f g k e) : ∃ r', r = (k, e) :: r' ∧ PatL f g e r' := by
  cases h with
  | done h1 => omega
  | skip _ h2 _ => exact absurd h2 hd
  | take h1 h2 h3 =>
    obtain rfl := he.same h2
    exact ⟨_, rfl, h3⟩
theorem PatL.last {f g : Nat → Nat} {r : List (Nat × Nat)} (h : PatL f g 256 r) : r = [] := by
  cases h with
  | done _ => rfl
  | skip h1 _ _ => omega
  | take h1 h2 _ => have := h2.2.1; omega
theorem drop_cons {l : List (Nat × Nat)} {t : Nat} {x : Nat × Nat} {r : List (Nat × Nat)} (h : l.drop t = x :: r) : t < l.length ∧ l.getD t (0, 0) = x ∧ l.drop (t + 1) = r := by
  have htl : t < l.length := by
    rcases Nat.lt_or_ge t l.length with q | q
    · exact q
    · rw [List.drop_eq_nil_of_le q] at h
      cases h
  refine ⟨htl, ?_, ?_⟩
  · rw [List.getD_eq_getElem?_getD]
    have := congrArg (fun z => z[0]?) h
    simp only [List.getElem?_drop, Nat.add_zero, List.getElem?_cons_zero] at this
    rw [this]
    rfl
  · have := congrArg (List.drop 1) h
    simpa [List.drop_drop] using this
theorem lay_one (F : Nat → Nat) (a : Int) (ha : -9223372036854775808 ≤ a ∧ a ≤ 9223372036854775807) (s : ByteArray) (hs : s.size ≤ 140737488351232) : ∃ (G : Nat → Nat) (e0 : Int), (∀ w : World, Calls Try.prog 9 #[.agg (va 256 (iv .u8 F)), .int .i64 a, .string s] w fun e w' => e = .returned (.tuple #[.agg (va 256 (iv .u8 G)), .int .i64 e0]) ∧ Below w.heap.size w w') ∧
    ((e0 = 40 ∧ ¬ Fit a (s.size : Int)) ∨ (e0 = 0 ∧ Fit a (s.size : Int) ∧ G = putAt F a.toNat s.size (tbyte s))) := by
  by_cases hft : Fit a (s.size : Int)
  · have hft' := hft
    obtain ⟨h1, h2, h3⟩ := hft'
    have := refLay_fit F a.toNat s (by omega)
    rw [show ((a.toNat : Nat) : Int) = a by omega] at this
    exact ⟨_, 0, this, .inr ⟨rfl, hft, rfl⟩⟩
  · exact ⟨_, 40, refLay_bad F a ha s (by omega) hft, .inl ⟨rfl, hft⟩⟩

set_option maxRecDepth 100000 in
set_option maxHeartbeats 16000000 in
theorem blockPatchesLaw (f g : Nat → Nat) (hg : ∀ i, g i < 256) (a2 : Option Addr) (n cap : Nat) (hn : n * 24 ≤ 140737488351232) (P : Nat → Int) (T : Nat → ByteArray) (w : World) (h : IsPats w a2 n P T) :
    Calls Try.prog 3 #[bkV f, bkV g, .slice a2 n cap] w fun e w' => e = .returned (.bool true) ∧ Below w.heap.size w w' := by
  have hA : Hid (∀ w : World, Calls Try.prog 5 #[] w fun e w' => e = .returned (.bool true) ∧ Below w.heap.size w w') := fun w => awake4_any w
  have hPt : Hid (∀ w : World, Calls Try.prog 6 #[.agg (va 256 (iv .u8 f)), .agg (va 256 (iv .u8 g))] w fun x w' => ∃ q c l, x = .returned (.slice q l.length c) ∧ PatL f g 0 l ∧ l.length ≤ 257 ∧ IsPats w' q l.length (pP l) (pT g l) ∧ Below w.heap.size w w') := fun w => (patches_any f g w).mono (by
    rintro x w' ⟨v, rfl, l, hl, hlen, hown, hb⟩
    obtain ⟨q, c, rfl, hq⟩ := own_pats hl hown
    exact ⟨q, c, l, rfl, hl, hlen, hq, hb⟩)
  have hPs : Hid (∀ w : World, Calls Try.prog 6 #[.agg (va 256 (iv .u8 f)), .agg (va 256 (iv .u8 f))] w fun x w' => ∃ q c, x = .returned (.slice q 0 c) ∧ Below w.heap.size w w') := fun w => (patches_any f f w).mono (by
    rintro x w' ⟨v, rfl, l, hl, hlen, hown, hb⟩
    obtain ⟨q, c, rfl, hq⟩ := own_pats hl hown
    obtain rfl := hl.self
    exact ⟨q, c, rfl, hb⟩)
  have hAp : Hid (∀ (q : Option Addr) (m c : Nat) (P : Nat → Int) (T : Nat → ByteArray) (w : World), m ≤ 9223372036854775806 → IsPats w q m P T → Calls Try.prog 7 #[.agg (va 256 (iv .u8 f)), .slice q m c] w fun e w' => ((∃ k : Nat, k < m ∧ (∀ i, i < k → Fit (P i) ((T i).size : Int)) ∧ ¬ Fit (P k) ((T k).size : Int) ∧ e = .returned (.tuple #[.agg (va 256 (iv .u8 fun _ => 0)), .int .i64 (k : Int), .int .i64 40])) ∨ ((∀ i, i < m → Fit (P i) ((T i).size : Int)) ∧ e = .returned (.tuple #[.agg (va 256 (iv .u8 (foldP f P T m))), .int .i64 0, .int .i64 0]))) ∧ Below w.heap.size w w') := fun q m c P T w hm hq => apply_any f q m c hm P T w hq
  have hDf : Hid (∀ w : World, Calls Try.prog 8 #[.agg (va 256 (iv .u8 f)), .agg (va 256 (iv .u8 g))] w fun e w' => e = .returned (.tuple #[.int .i64 (dfst f g 256), .int .i64 (dcnt f g 256 : Int)]) ∧ Below w.heap.size w w') := fun w => differ_any f g w
  have HG : Hid (∀ i, g i < 256) := hg
  have HI2 : Hid (IsPats w a2 n P T) := h
  clear h hg
  unfold bkV
  have hz := zero_bk
  have hz2 := zero_rbk
  have b0 : Blk ((w.alloc (Obj.cells (va 256 (iv IntKind.u8 f)) 23)).alloc (Obj.cells (va 256 (iv IntKind.u8 g)) 23)) w.heap.size 23 (va 256 (iv .u8 f)) := (Blk.new _ _ _).alloc _
  have b1 := Blk.new1 w (Obj.cells (va 256 (iv IntKind.u8 f)) 23) 23 (va 256 (iv IntKind.u8 g))
  have hb := below_new2 w (Obj.cells (va 256 (iv IntKind.u8 f)) 23) (Obj.cells (va 256 (iv IntKind.u8 g)) 23)
  go_enter Try.func3, Try.ntmps3
  go_wp2_with fail
  generalize (w.alloc (Obj.cells (va 256 (iv IntKind.u8 f)) 23)).alloc (Obj.cells (va 256 (iv IntKind.u8 g)) 23) = W at *
  refine (hA.out _).mono ?_
  rintro e w1 ⟨rfl, hh⟩
  have c0 := b0.below hh b0.lt
  have c1 := b1.below hh b1.lt
  have hb1 : Below w.heap.size w w1 := hb.trans (hh.mono hb.size)
  clear b0 b1 hb hh hA
  go_wp2_with (first
    | (refine wpList_load_row (by rfl) 23 _ (by rfl) (w.heap.size) (by rfl) 23 (va 256 (iv .u8 f)) (0, 0) _ c0 Try.underlying23 (by rfl) (sizeBk.trans (by rw [va_size])) ?_; simp only [Act.put, List.setIfInBounds_toArray, List.set_cons_zero, List.set_cons_succ])
    | (refine wpList_load_row (by rfl) 23 _ (by rfl) (w.heap.size + 1) (by rfl) 23 (va 256 (iv .u8 g)) (0, 0) _ c1 Try.underlying23 (by rfl) (sizeBk.trans (by rw [va_size])) ?_; simp only [Act.put, List.setIfInBounds_toArray, List.set_cons_zero, List.set_cons_succ])
    | fail)
  refine (hPt.out _).mono ?_
  rintro e w2 ⟨q, cq, l, rfl, hl, hlen, hq, hh⟩
  have b0 := c0.below hh c0.lt
  have b1 := c1.below hh c1.lt
  have hb2 : Below w.heap.size w w2 := hb1.trans (hh.mono hb1.size)
  have HL : Hid (PatL f g 0 l) := hl
  clear c0 c1 hb1 hh hPt hl
  go_wp2_with fail
  go_loopw [8, 9, 10] (fun t s i wr => ∃ k tt : Nat, k ≤ 256 ∧ tt ≤ l.length ∧ t = .int .i64 tt ∧ s = .int .i64 (dcnt f g k : Int) ∧ i = .int .i64 k ∧ PatL f g k (l.drop tt) ∧ Blk wr w.heap.size 23 (va 256 (iv .u8 f)) ∧ Blk wr (w.heap.size + 1) 23 (va 256 (iv .u8 g)) ∧ IsPats wr q l.length (pP l) (pT g l) ∧ Below w.heap.size w wr) (fun _ _ i _ => 256 - (intOf i).toNat)
  case atStart => exact ⟨0, 0, by omega, by omega, rfl, rfl, rfl, HL.out, b0, b1, hq, hb2⟩
  case round =>
    clear b0 b1 hq hb2
    obtain ⟨k, tt, hk, htt, rfl, rfl, rfl, hpl, b0, b1, hq, hb⟩ := hrel
    have HPL : Hid (PatL f g k (l.drop tt)) := hpl
    clear hpl
    by_cases hlt : k < 256
    · have k0 : (0 : Int) ≤ (k : Int) := by omega
      have k1 : (k : Int) < 256 := by omega
      have c0 := b0.cv (i := k) hlt
      have c1 := b1.cv (i := k) hlt
      unfold iv at c0 c1
      by_cases he : f k = g k
      · rw [← he] at c1
        have HE : Hid (f k = g k) := he
        have HD : Hid (dcnt f g (k + 1) = dcnt f g k) := by
          show dcnt f g k + (if f k = g k then 0 else 1) = _
          rw [if_pos he]
          rfl
        clear he
        go_wp2_with fail
        go_quiet (fail)
        go_wp2_with fail
        refine ⟨⟨k + 1, tt, by omega, htt, rfl, by rw [HD.out], by simp, HPL.out.next hlt HE.out, b0, b1, hq.below (kbelow_drewN (Below.refl _ _) _), kbelow_drewN hb _⟩, ?_⟩
        simp [intOf]
        omega
      · have he' : ¬ ((f k : Nat) : Int) = ((g k : Nat) : Int) := by omega
        have HE : Hid (f k ≠ g k) := he
        have hdl := dcnt_le f g k
        clear he
        go_wp2_with fail
        go_quiet (fail)
        go_wp2_with fail
        have hqd : IsPats (wr.drewN nq) q l.length (pP l) (pT g l) := hq.below (kbelow_drewN (Below.refl _ _) _)
        have hbd : Below w.heap.size w (wr.drewN nq) := kbelow_drewN hb _
        have d0 : Blk (wr.drewN nq) w.heap.size 23 (va 256 (iv .u8 f)) := b0
        have d1 : Blk (wr.drewN nq) (w.heap.size + 1) 23 (va 256 (iv .u8 g)) := b1
        generalize wr.drewN nq = wz at *
        clear b0 b1 hq hb c0 c1
        go_loopw [10] (fun i w5 => ∃ e : Nat, k ≤ e ∧ e ≤ 256 ∧ i = .int .i64 e ∧ (∀ j, k ≤ j → j < e → f j ≠ g j) ∧ Blk w5 w.heap.size 23 (va 256 (iv .u8 f)) ∧ Blk w5 (w.heap.size + 1) 23 (va 256 (iv .u8 g)) ∧ IsPats w5 q l.length (pP l) (pT g l) ∧ Below w.heap.size w w5) (fun i _ => 256 - (intOf i).toNat)
        case atStart => exact ⟨k, Nat.le_refl _, hk, rfl, fun j h1 h2 => absurd h2 (by omega), d0, d1, hqd, hbd⟩
        case round =>
          clear d0 d1 hqd hbd
          obtain ⟨e, hke, he256, rfl, hdiff, b0, b1, hq, hb⟩ := hrel
          have HDF : Hid (∀ j, k ≤ j → j < e → f j ≠ g j) := hdiff
          clear hdiff
          by_cases helt : e < 256
          · have j0 : (0 : Int) ≤ (e : Int) := by omega
            have j1 : (e : Int) < 256 := by omega
            have j2 : decide ((e : Int) < 256) = true := decide_eq_true j1
            have c0 := b0.cv (i := e) helt
            have c1 := b1.cv (i := e) helt
            unfold iv at c0 c1
            by_cases hee : f e = g e
            · rw [← hee] at c1
              have HEI : Hid (EndIs f g k e) := ⟨hke, he256, HDF.out, fun _ => hee⟩
              clear hee
              go_wp2_with fail
              go_quiet (fail)
              go_wp2_with fail
              obtain ⟨r', hdr, hpr⟩ := HPL.out.first hlt HE.out HEI.out
              obtain ⟨htl, hget, hdr2⟩ := drop_cons hdr
              have hqd := hq.below (kbelow_drewN (Below.refl wr.heap.size wr) nq)
              have hbd : Below w.heap.size w (wr.drewN nq) := kbelow_drewN hb _
              have d1 : Blk (wr.drewN nq) (w.heap.size + 1) 23 (va 256 (iv .u8 g)) := b1
              have d0 : Blk (wr.drewN nq) w.heap.size 23 (va 256 (iv .u8 f)) := b0
              generalize wr.drewN nq = wy at *
              have hkl : k < e := by
                rcases Nat.lt_or_ge k e with h | h
                · exact h
                · have h2 := HEI.out.2.2.2 (by have := HEI.out.1; omega)
                  have h3 : e = k := by have := HEI.out.1; omega
                  rw [h3] at h2
                  exact absurd h2 HE.out
              obtain ⟨bq, oq, rfl, _, p0, p1, _, _⟩ := hqd tt htl
              have HQD : Hid (IsPats wy (some ⟨bq, oq, none⟩) l.length (pP l) (pT g l)) := hqd
              obtain ⟨d, hd⟩ : ∃ d : Nat, d = e - k := ⟨_, rfl⟩
              have hP : pP l tt = (k : Int) := by
                unfold pP
                rw [hget]
              have hT : pT g l tt = strN (fun j => g (k + j)) d := by
                unfold pT
                rw [hget, hd]
              rw [hP] at p0
              rw [hT] at p1
              have hc := fun nz => run_bytes_text (P := Try.prog) (wy.drewN nz) 29 5 9 Try.underlying29 Try.underlying5 Try.underlying9 (show Blk (wy.drewN nz) (w.heap.size + 1) 23 (va 256 (iv .u8 g)) from d1) k d (256 - k) (by omega)
              have hqp := eq_pat (k : Int) (strN (fun j => g (k + j)) d)
              have HDC : Hid (dcnt f g e = dcnt f g k + d) := by
                show _ = _
                rw [hd]
                exact dcnt_end e (by omega) HEI.out.2.2.1
              have HPR : Hid (PatL f g e (l.drop (tt + 1))) := by
                show PatL f g e (l.drop (tt + 1))
                rw [hdr2]
                exact hpr
              generalize strN (fun j => g (k + j)) d = S at *
              have t1 : ¬ ((l.length : Int) ≤ (tt : Int)) := by omega
              have t2 : decide ((l.length : Int) ≤ (tt : Int)) = false := decide_eq_false t1
              have t3 : (0 : Int) ≤ (tt : Int) := by omega
              have t4 : (tt : Int) < (l.length : Int) := by omega
              have t5 : (k : Int) ≤ (e : Int) := by omega
              have t6 : e - k = d := by omega
              have t7 : ¬ 256 = k := by omega
              have t8 : (e : Int) - (k : Int) = (d : Int) := by omega
              have t9 : d ≤ 256 := by omega
              have t10 : (e : Int) ≤ 256 := by omega
              clear hd hqd hq hb b0 b1 hget hdr hdr2 hpr hP hT
              go_wp2_with fail
              go_quiet (fail)
              go_wp2_with fail
              refine ⟨⟨e, tt + 1, by omega, by omega, by simp, by rw [HDC.out]; simp, rfl, HPR.out, d0, d1, HQD.out.below (kbelow_drewN (Below.refl _ _) _), kbelow_drewN hbd _⟩, ?_⟩
              simp [intOf]
              omega
            · have hee' : ¬ ((f e : Nat) : Int) = ((g e : Nat) : Int) := by omega
              have HEE : Hid (f e ≠ g e) := hee
              clear hee
              go_wp2_with fail
              go_quiet (fail)
              go_wp2_with fail
              refine ⟨⟨e + 1, by omega, by omega, by simp, fun j h1 h2 => ?_, b0, b1, hq.below (kbelow_drewN (Below.refl _ _) _), kbelow_drewN hb _⟩, ?_⟩
              · by_cases hj : j = e
                · rw [hj]
                  exact HEE.out
                · exact HDF.out j h1 (by omega)
              · simp [intOf]
                omega
          · have HEI : Hid (EndIs f g k e) := ⟨hke, he256, HDF.out, fun h => absurd h (by omega)⟩
            have j1 : ¬ (e : Int) < 256 := by omega
            have j2 : decide ((e : Int) < 256) = false := decide_eq_false j1
            go_wp2_with fail
            go_quiet (fail)
            go_wp2_with fail
            obtain ⟨r', hdr, hpr⟩ := HPL.out.first hlt HE.out HEI.out
            obtain ⟨htl, hget, hdr2⟩ := drop_cons hdr
            have hqd := hq.below (kbelow_drewN (Below.refl wr.heap.size wr) nq)
            have hbd : Below w.heap.size w (wr.drewN nq) := kbelow_drewN hb _
            have d1 : Blk (wr.drewN nq) (w.heap.size + 1) 23 (va 256 (iv .u8 g)) := b1
            have d0 : Blk (wr.drewN nq) w.heap.size 23 (va 256 (iv .u8 f)) := b0
            generalize wr.drewN nq = wy at *
            have hkl : k < e := by
              rcases Nat.lt_or_ge k e with h | h
              · exact h
              · have h2 := HEI.out.2.2.2 (by have := HEI.out.1; omega)
                have h3 : e = k := by have := HEI.out.1; omega
                rw [h3] at h2
                exact absurd h2 HE.out
            obtain ⟨bq, oq, rfl, _, p0, p1, _, _⟩ := hqd tt htl
            have HQD : Hid (IsPats wy (some ⟨bq, oq, none⟩) l.length (pP l) (pT g l)) := hqd
            obtain ⟨d, hd⟩ : ∃ d : Nat, d = e - k := ⟨_, rfl⟩
            have hP : pP l tt = (k : Int) := by
              unfold pP
              rw [hget]
            have hT : pT g l tt = strN (fun j => g (k + j)) d := by
              unfold pT
              rw [hget, hd]
            rw [hP] at p0
            rw [hT] at p1
            have hc := fun nz => run_bytes_text (P := Try.prog) (wy.drewN nz) 29 5 9 Try.underlying29 Try.underlying5 Try.underlying9 (show Blk (wy.drewN nz) (w.heap.size + 1) 23 (va 256 (iv .u8 g)) from d1) k d (256 - k) (by omega)
            have hqp := eq_pat (k : Int) (strN (fun j => g (k + j)) d)
            have HDC : Hid (dcnt f g e = dcnt f g k + d) := by
              show _ = _
              rw [hd]
              exact dcnt_end e (by omega) HEI.out.2.2.1
            have HPR : Hid (PatL f g e (l.drop (tt + 1))) := by
              show PatL f g e (l.drop (tt + 1))
              rw [hdr2]
              exact hpr
            generalize strN (fun j => g (k + j)) d = S at *
            have t1 : ¬ ((l.length : Int) ≤ (tt : Int)) := by omega
            have t2 : decide ((l.length : Int) ≤ (tt : Int)) = false := decide_eq_false t1
            have t3 : (0 : Int) ≤ (tt : Int) := by omega
            have t4 : (tt : Int) < (l.length : Int) := by omega
            have t5 : (k : Int) ≤ (e : Int) := by omega
            have t6 : e - k = d := by omega
            have t7 : ¬ 256 = k := by omega
            have t8 : (e : Int) - (k : Int) = (d : Int) := by omega
            have t9 : d ≤ 256 := by omega
            have t10 : (e : Int) ≤ 256 := by omega
            clear hd hqd hq hb b0 b1 hget hdr hdr2 hpr hP hT
            go_wp2_with fail
            go_quiet (fail)
            go_wp2_with fail
            refine ⟨⟨e, tt + 1, by omega, by omega, by simp, by rw [HDC.out]; simp, rfl, HPR.out, d0, d1, HQD.out.below (kbelow_drewN (Below.refl _ _) _), kbelow_drewN hbd _⟩, ?_⟩
            simp [intOf]
            omega
    · obtain rfl : k = 256 := by omega
      have htl : tt = l.length := by
        have := HPL.out.last
        have h2 := List.drop_eq_nil_iff.1 this
        omega
      have HTT : Hid (tt = l.length) := htl
      have tl : (tt : Int) = (l.length : Int) := by omega
      clear HPL
      have HFP : Hid (bkSame (foldP f (pP l) (pT g l) l.length) g) := fold_pat HG.out HL.out
      have HFT : Hid (∀ i, i < l.length → Fit (pP l i) ((pT g l i).size : Int)) := fit_pat HL.out
      go_wp2_with (first
        | (refine wpList_load_row (by rfl) 23 _ (by rfl) (w.heap.size) (by rfl) 23 (va 256 (iv .u8 f)) (0, 0) _ b0 Try.underlying23 (by rfl) (sizeBk.trans (by rw [va_size])) ?_; simp only [Act.put, List.setIfInBounds_toArray, List.set_cons_zero, List.set_cons_succ])
        | fail)
      refine (hAp.out _ _ _ _ _ _ (by omega) hq).mono ?_
      rintro x w3 ⟨hcase, hh⟩
      obtain rfl : x = .returned (.tuple #[.agg (va 256 (iv .u8 (foldP f (pP l) (pT g l) l.length))), .int .i64 0, .int .i64 0]) := by
        rcases hcase with ⟨k', hk', _, hbad, _⟩ | ⟨_, hx⟩
        · exact absurd (HFT.out k' hk') hbad
        · exact hx
      clear hcase
      have hqe : ∀ w, (Op.equalIn 10000 23 (.agg (va 256 (iv .u8 (foldP f (pP l) (pT g l) l.length)))) (.agg (va 256 (iv .u8 g)))).run Try.prog w = .ok true w := fun w => by
        have := eq_bk 23 Try.underlying23 (foldP f (pP l) (pT g l) l.length) g w
        rw [decide_eq_true HFP.out] at this
        exact this
      generalize foldP f (pP l) (pT g l) l.length = X at *
      have c0 := b0.below hh b0.lt
      have c1 := b1.below hh b1.lt
      have hb3 : Below w.heap.size w w3 := hb.trans (hh.mono hb.size)
      clear b0 b1 hb hh hq HFP HFT htl
      have n3 := Blk.new w3 23 (va 256 (iv .u8 fun _ => 0))
      have b0 := (c0.alloc (Obj.cells (va 256 (iv IntKind.u8 fun _ => 0)) 23)).other (g := w3.heap.size) (va 256 (iv .u8 X)) (Nat.ne_of_lt c0.lt)
      have b1 := (c1.alloc (Obj.cells (va 256 (iv IntKind.u8 fun _ => 0)) 23)).other (g := w3.heap.size) (va 256 (iv .u8 X)) (Nat.ne_of_lt c1.lt)
      have gc := n3.set (va 256 (iv .u8 X))
      have hb4 : Below w.heap.size w ((w3.alloc (Obj.cells (va 256 (iv IntKind.u8 fun _ => 0)) 23)).setRow w3.heap.size (va 256 (iv .u8 X))) := below_setRow (hb3.alloc hb3.size _) hb3.size _
      have lc1 : w.heap.size + 1 < w3.heap.size := c1.lt
      clear c0 c1 hb3
      go_wp2_with (first
        | (refine wpList_store_row (by rfl) 23 _ _ (by rfl) (w3.heap.size) (va 256 (iv .u8 X)) (by rfl) (by rfl) 23 _ n3 (sizeBk.trans (by rw [va_size])) (by simp only [va_size]) (iv_one _ _ _) ?_; simp only [Act.put, List.setIfInBounds_toArray, List.set_cons_zero, List.set_cons_succ])
        | (refine wpList_load_row (by rfl) 23 _ (by rfl) (w.heap.size) (by rfl) 23 (va 256 (iv .u8 f)) (0, 0) _ b0 Try.underlying23 (by rfl) (sizeBk.trans (by rw [va_size])) ?_; simp only [Act.put, List.setIfInBounds_toArray, List.set_cons_zero, List.set_cons_succ])
        | (refine wpList_load_row (by rfl) 23 _ (by rfl) (w.heap.size + 1) (by rfl) 23 (va 256 (iv .u8 g)) (0, 0) _ b1 Try.underlying23 (by rfl) (sizeBk.trans (by rw [va_size])) ?_; simp only [Act.put, List.setIfInBounds_toArray, List.set_cons_zero, List.set_cons_succ])
        | fail)
      clear n3
      generalize (w3.alloc (Obj.cells (va 256 (iv IntKind.u8 fun _ => 0)) 23)).setRow w3.heap.size (va 256 (iv .u8 X)) = w4 at *
      refine (hDf.out _).mono ?_
      rintro x w5 ⟨rfl, hh⟩
      have c0 := b0.below hh b0.lt
      have c1 := b1.below hh b1.lt
      have gc5 := gc.below hh gc.lt
      have hb5 : Below w.heap.size w w5 := hb4.trans (hh.mono hb4.size)
      clear b0 b1 gc hb4 hh hDf
      go_wp2_with (first
        | (refine wpList_load_rowg (by rfl) 23 _ (by rfl) (w3.heap.size) (by rfl) 23 (va 256 (iv .u8 X)) (0, 0) _ gc5 Try.underlying23 (by rfl) (sizeBk.trans (by rw [va_size])) ?_; simp only [Act.put, List.setIfInBounds_toArray, List.set_cons_zero, List.set_cons_succ])
        | (refine wpList_load_rowg (by rfl) 23 _ (by rfl) (w.heap.size + 1) (by rfl) 23 (va 256 (iv .u8 g)) (0, 0) _ c1 Try.underlying23 (by rfl) (sizeBk.trans (by rw [va_size])) ?_; simp only [Act.put, List.setIfInBounds_toArray, List.set_cons_zero, List.set_cons_succ])
        | (refine wpList_load_rowg (by rfl) 23 _ (by rfl) (w.heap.size) (by rfl) 23 (va 256 (iv .u8 f)) (0, 0) _ c0 Try.underlying23 (by rfl) (sizeBk.trans (by rw [va_size])) ?_; simp only [Act.put, List.setIfInBounds_toArray, List.set_cons_zero, List.set_cons_succ])
        | fail)
      refine (hPs.out _).mono ?_
      rintro x w6 ⟨q6, c6, rfl, hh⟩
      have b0 := c0.below hh c0.lt
      have gc := gc5.below hh gc5.lt
      have hb6 : Below w.heap.size w w6 := hb5.trans (hh.mono hb5.size)
      clear c0 c1 gc5 hb5 hh hPs hqe
      have n6 := Blk.new w6 35 (va 256 (iv .u8 fun _ => 0))
      have c0 := (b0.alloc (Obj.cells (va 256 (iv IntKind.u8 fun _ => 0)) 35)).other (g := w6.heap.size) (va 256 (iv .u8 f)) (Nat.ne_of_lt b0.lt)
      have gc6 := (gc.alloc (Obj.cells (va 256 (iv IntKind.u8 fun _ => 0)) 35)).other (g := w6.heap.size) (va 256 (iv .u8 f)) (Nat.ne_of_lt gc.lt)
      have gw := n6.set (va 256 (iv .u8 f))
      have hb7 : Below w.heap.size w ((w6.alloc (Obj.cells (va 256 (iv IntKind.u8 fun _ => 0)) 35)).setRow w6.heap.size (va 256 (iv .u8 f))) := below_setRow (hb6.alloc hb6.size _) hb6.size _
      have lgc : w3.heap.size < w6.heap.size := gc.lt
      have hz6 : w.heap.size ≤ w6.heap.size := hb6.size
      clear gc hb6
      go_wp2_with (first
        | (refine wpList_load_row (by rfl) 23 _ (by rfl) (w.heap.size) (by rfl) 23 (va 256 (iv .u8 f)) (0, 0) _ b0.alloc _ Try.underlying23 (by rfl) (sizeBk.trans (by rw [va_size])) ?_; simp only [Act.put, List.setIfInBounds_toArray, List.set_cons_zero, List.set_cons_succ])
        | (refine wpList_load_row (by rfl) 23 _ (by rfl) (w.heap.size) (by rfl) 23 (va 256 (iv .u8 f)) (0, 0) _ b0 Try.underlying23 (by rfl) (sizeBk.trans (by rw [va_size])) ?_; simp only [Act.put, List.setIfInBounds_toArray, List.set_cons_zero, List.set_cons_succ])
        | (refine wpList_store_row (by rfl) 35 _ _ (by rfl) (w6.heap.size) (va 256 (iv .u8 f)) (by rfl) (by rfl) 35 _ n6 (sizeRbk.trans (by rw [va_size])) (by simp only [va_size]) (iv_one _ _ _) ?_; simp only [Act.put, List.setIfInBounds_toArray, List.set_cons_zero, List.set_cons_succ])
        | fail)
      clear n6 b0
      generalize (w6.alloc (Obj.cells (va 256 (iv IntKind.u8 fun _ => 0)) 35)).setRow w6.heap.size (va 256 (iv .u8 f)) = w7 at *
      as_aux_lemma =>
        go_loopw [124] (fun i wr => ∃ k : Nat, k ≤ n ∧ i = .int .i64 k ∧ (∀ i, i < k → Fit (P i) ((T i).size : Int)) ∧ Blk wr w6.heap.size 35 (va 256 (iv .u8 (foldP f P T k))) ∧ Blk wr w.heap.size 23 (va 256 (iv .u8 f)) ∧ Blk wr w3.heap.size 23 (va 256 (iv .u8 X)) ∧ Below w.heap.size w wr) (fun i _ => n - (intOf i).toNat)
        case atStart => exact ⟨0, Nat.zero_le _, rfl, fun i hi => absurd hi (by omega), gw, c0, gc6, hb7⟩
        case round =>
          clear gw c0 gc6 hb7
          obtain ⟨k, hk, rfl, hfit, gw, b0, gc, hb⟩ := hrel
          have HFIT : Hid (∀ i, i < k → Fit (P i) ((T i).size : Int)) := hfit
          clear hfit
          by_cases hlt : k < n
          · obtain ⟨b, o, rfl, hbl, hc0, hc1, hp, hs⟩ := HI2.out k hlt
            have hblk := hb.block b hbl
            have p0 : wr.cell? ⟨b, o + k * 2, none⟩ = some (.int .i64 (P k)) := by
              rw [← hc0]
              simp [World.cell?, hblk]
            have p1 : wr.cell? ⟨b, o + k * 2 + 1, none⟩ = some (.string (T k)) := by
              rw [← hc1]
              simp [World.cell?, hblk]
            have k0 : (0 : Int) ≤ (k : Int) := by omega
            have k1 : (k : Int) < (n : Int) := by omega
            have HF : Hid (foldP f P T (k + 1) = putAt (foldP f P T k) (P k).toNat (T k).size (tbyte (T k))) := rfl
            generalize foldP f P T k = F at *
            obtain ⟨G, e0, hL0, hcase⟩ := lay_one F (P k) hp (T k) hs
            have hRL : Hid (∀ w : World, Calls Try.prog 9 #[.agg (va 256 (iv .u8 F)), .int .i64 (P k), .string (T k)] w fun e w' => e = .returned (.tuple #[.agg (va 256 (iv .u8 G)), .int .i64 e0]) ∧ Below w.heap.size w w') := hL0
            have HC : Hid ((e0 = 40 ∧ ¬ Fit (P k) ((T k).size : Int)) ∨ (e0 = 0 ∧ Fit (P k) ((T k).size : Int) ∧ G = putAt F (P k).toNat (T k).size (tbyte (T k)))) := hcase
            have dw := gw.alloc (Obj.cells #[Value.int IntKind.i64 (P k), Value.string (T k)] 28)
            have d0 := b0.alloc (Obj.cells #[Value.int IntKind.i64 (P k), Value.string (T k)] 28)
            have dc := gc.alloc (Obj.cells #[Value.int IntKind.i64 (P k), Value.string (T k)] 28)
            have hbd := hb.alloc hb.size (Obj.cells #[Value.int IntKind.i64 (P k), Value.string (T k)] 28)
            clear hL0 hcase hc0 hc1 hblk hp hs hbl gw b0 gc hb
            go_wp2_with (first
              | (refine wpList_load_row (by rfl) 35 _ (by rfl) (w6.heap.size) (by rfl) 35 (va 256 (iv .u8 F)) (0, 0) _ dw Try.underlying35 (by rfl) (sizeRbk.trans (by rw [va_size])) ?_; simp only [Act.put, List.setIfInBounds_toArray, List.set_cons_zero, List.set_cons_succ])
              | fail)
            generalize wr.alloc (Obj.cells #[Value.int IntKind.i64 (P k), Value.string (T k)] 28) = w8 at *
            refine (hRL.out _).mono ?_
            rintro x w9 ⟨rfl, hh⟩
            have ew := dw.below hh dw.lt
            have f0 := d0.below hh d0.lt
            have ec := dc.below hh dc.lt
            have hb9 : Below w.heap.size w w9 := hbd.trans (hh.mono hbd.size)
            have lw : w6.heap.size < w9.heap.size := ew.lt
            clear dw d0 dc hbd hh hRL p0 p1
            have n9 := Blk.new w9 35 (va 256 (iv .u8 fun _ => 0))
            have gn := n9.set (va 256 (iv .u8 G))
            have gw := (ew.alloc (Obj.cells (va 256 (iv IntKind.u8 fun _ => 0)) 35)).other (g := w9.heap.size) (va 256 (iv .u8 G)) (Nat.ne_of_lt ew.lt)
            have b0 := (f0.alloc (Obj.cells (va 256 (iv IntKind.u8 fun _ => 0)) 35)).other (g := w9.heap.size) (va 256 (iv .u8 G)) (Nat.ne_of_lt f0.lt)
            have gc := (ec.alloc (Obj.cells (va 256 (iv IntKind.u8 fun _ => 0)) 35)).other (g := w9.heap.size) (va 256 (iv .u8 G)) (Nat.ne_of_lt ec.lt)
            have hbA : Below w.heap.size w ((w9.alloc (Obj.cells (va 256 (iv IntKind.u8 fun _ => 0)) 35)).setRow w9.heap.size (va 256 (iv .u8 G))) := below_setRow (hb9.alloc hb9.size _) hb9.size _
            clear ew f0 ec hb9
            rcases HC.out with ⟨rfl, hbad⟩ | ⟨rfl, hft, rfl⟩
            · have HBAD : Hid (¬ Fit (P k) ((T k).size : Int)) := hbad
              clear hbad HC
              go_wp2_with (first
                | (refine wpList_store_row (by rfl) 35 _ _ (by rfl) (w9.heap.size) (va 256 (iv .u8 G)) (by rfl) (by rfl) 35 _ n9 (sizeRbk.trans (by rw [va_size])) (by simp only [va_size]) (iv_one _ _ _) ?_; simp only [Act.put, List.setIfInBounds_toArray, List.set_cons_zero, List.set_cons_succ])
                | (refine wpList_load_row (by rfl) 23 _ (by rfl) (w.heap.size) (by rfl) 23 (va 256 (iv .u8 f)) (0, 0) _ b0 Try.underlying23 (by rfl) (sizeBk.trans (by rw [va_size])) ?_; simp only [Act.put, List.setIfInBounds_toArray, List.set_cons_zero, List.set_cons_succ])
                | fail)
              clear n9 gw gc gn
              generalize (w9.alloc (Obj.cells (va 256 (iv IntKind.u8 fun _ => 0)) 35)).setRow w9.heap.size (va 256 (iv .u8 G)) = wA at *
              refine (hAp.out _ _ _ _ _ _ (by omega) (HI2.out.below hbA)).mono ?_
              rintro x wB ⟨hcase, hh⟩
              obtain rfl : x = .returned (.tuple #[.agg (va 256 (iv .u8 fun _ => 0)), .int .i64 (k : Int), .int .i64 40]) := by
                rcases hcase with ⟨k', hk', hg', hb', hx⟩ | ⟨hall, _⟩
                · have : k' = k := by
                    rcases Nat.lt_trichotomy k' k with q | q | q
                    · exact absurd (HFIT.out k' q) hb'
                    · exact q
                    · exact absurd (hg' k q) HBAD.out
                  rw [this] at hx
                  exact hx
                · exact absurd (hall k hlt) HBAD.out
              have hbB : Below w.heap.size w wB := hbA.trans (hh.mono hbA.size)
              have nB := Blk.new wB 23 (va 256 (iv .u8 fun _ => 0))
              have gB := nB.set (va 256 (iv .u8 fun _ => 0))
              have hbC : Below w.heap.size w ((wB.alloc (Obj.cells (va 256 (iv IntKind.u8 fun _ => 0)) 23)).setRow wB.heap.size (va 256 (iv .u8 fun _ => 0))) := below_setRow (hbB.alloc hbB.size _) hbB.size _
              have hq0 : ∀ w, (Op.equalIn 10000 23 (.agg (va 256 (iv .u8 fun _ => 0))) (.agg (va 256 (iv .u8 fun _ => 0)))).run Try.prog w = .ok true w := fun w => by
                have := eq_bk 23 Try.underlying23 (fun _ => 0) (fun _ => 0) w
                rw [decide_eq_true (fun _ _ => rfl)] at this
                exact this
              clear hcase hh hbA hbB b0
              go_wp2_with (first
                | (refine wpList_store_row (by rfl) 23 _ _ (by rfl) (wB.heap.size) (va 256 (iv .u8 fun _ => 0)) (by rfl) (by rfl) 23 _ nB (sizeBk.trans (by rw [va_size])) (by simp only [va_size]) (iv_one _ _ _) ?_; simp only [Act.put, List.setIfInBounds_toArray, List.set_cons_zero, List.set_cons_succ])
                | (refine wpList_load_row (by rfl) 23 _ (by rfl) (wB.heap.size) (by rfl) 23 (va 256 (iv .u8 fun _ => 0)) (0, 0) _ gB Try.underlying23 (by rfl) (sizeBk.trans (by rw [va_size])) ?_; simp only [Act.put, List.setIfInBounds_toArray, List.set_cons_zero, List.set_cons_succ])
                | fail)
              go_ret
              exact ⟨rfl, hbC⟩
            · obtain ⟨G, hG⟩ : ∃ G, G = putAt F (P k).toNat (T k).size (tbyte (T k)) := ⟨_, rfl⟩
              rw [← hG] at HF gn gw b0 gc hbA ⊢
              have HFT : Hid (Fit (P k) ((T k).size : Int)) := hft
              clear hG hft HC
              go_wp2_with (first
                | (refine wpList_store_row (by rfl) 35 _ _ (by rfl) (w9.heap.size) (va 256 (iv .u8 G)) (by rfl) (by rfl) 35 _ n9 (sizeRbk.trans (by rw [va_size])) (by simp only [va_size]) (iv_one _ _ _) ?_; simp only [Act.put, List.setIfInBounds_toArray, List.set_cons_zero, List.set_cons_succ])
                | (refine wpList_load_row (by rfl) 35 _ (by rfl) (w9.heap.size) (by rfl) 35 (va 256 (iv .u8 G)) (0, 0) _ gn Try.underlying35 (by rfl) (sizeRbk.trans (by rw [va_size])) ?_; simp only [Act.put, List.setIfInBounds_toArray, List.set_cons_zero, List.set_cons_succ])
                | (refine wpList_store_row (by rfl) 35 _ _ (by rfl) (w6.heap.size) (va 256 (iv .u8 G)) (by rfl) (by rfl) 35 _ gw (sizeRbk.trans (by rw [va_size])) (by simp only [va_size]) (iv_one _ _ _) ?_; simp only [Act.put, List.setIfInBounds_toArray, List.set_cons_zero, List.set_cons_succ])
                | fail)
              refine ⟨⟨k + 1, by omega, by simp, fun i hi => ?_, ?_, b0.other _ (by omega), gc.other _ (by omega), below_setRow hbA hz6 _⟩, ?_⟩
              · by_cases hik : i = k
                · rw [hik]
                  exact HFT.out
                · exact HFIT.out i (by omega)
              · rw [HF.out]
                exact gw.set _
              · simp [intOf]
                omega
          · obtain rfl : k = n := by omega
            have hq1 : ∀ w, (Op.equalIn 10000 23 (.agg (va 256 (iv .u8 (foldP f P T k)))) (.agg (va 256 (iv .u8 (foldP f P T k))))).run Try.prog w = .ok true w := fun w => by
              have := eq_bk 23 Try.underlying23 (foldP f P T k) (foldP f P T k) w
              rw [decide_eq_true (fun _ _ => rfl)] at this
              exact this
            go_wp2_with (first
              | (refine wpList_load_row (by rfl) 23 _ (by rfl) (w.heap.size) (by rfl) 23 (va 256 (iv .u8 f)) (0, 0) _ b0 Try.underlying23 (by rfl) (sizeBk.trans (by rw [va_size])) ?_; simp only [Act.put, List.setIfInBounds_toArray, List.set_cons_zero, List.set_cons_succ])
              | fail)
            refine (hAp.out _ _ _ _ _ _ (by omega) (HI2.out.below hb)).mono ?_
            rintro x wB ⟨hcase, hh⟩
            obtain rfl : x = .returned (.tuple #[.agg (va 256 (iv .u8 (foldP f P T k))), .int .i64 0, .int .i64 0]) := by
              rcases hcase with ⟨k', hk', _, hbad, _⟩ | ⟨_, hx⟩
              · exact absurd (HFIT.out k' hk') hbad
              · exact hx
            generalize foldP f P T k = F at *
            have gw' := gw.below hh gw.lt
            have gc' := gc.below hh gc.lt
            have hbB : Below w.heap.size w wB := hb.trans (hh.mono hb.size)
            have gcN := gc'.set (va 256 (iv .u8 F))
            have gwN := gw'.other (g := w3.heap.size) (va 256 (iv .u8 F)) (by omega)
            have hbC := below_setRow hbB (show w.heap.size ≤ w3.heap.size by omega) (va 256 (iv .u8 F))
            clear hcase hh hb b0 gw gc
            go_wp2_with (first
              | (refine wpList_store_row (by rfl) 23 _ _ (by rfl) (w3.heap.size) (va 256 (iv .u8 F)) (by rfl) (by rfl) 23 _ gc' (sizeBk.trans (by rw [va_size])) (by simp only [va_size]) (iv_one _ _ _) ?_; simp only [Act.put, List.setIfInBounds_toArray, List.set_cons_zero, List.set_cons_succ])
              | (refine wpList_load_row (by rfl) 23 _ (by rfl) (w3.heap.size) (by rfl) 23 (va 256 (iv .u8 F)) (0, 0) _ gcN Try.underlying23 (by rfl) (sizeBk.trans (by rw [va_size])) ?_; simp only [Act.put, List.setIfInBounds_toArray, List.set_cons_zero, List.set_cons_succ])
              | (refine wpList_load_row (by rfl) 35 _ (by rfl) (w6.heap.size) (by rfl) 35 (va 256 (iv .u8 F)) (0, 0) _ gwN Try.underlying35 (by rfl) (sizeRbk.trans (by rw [va_size])) ?_; simp only [Act.put, List.setIfInBounds_toArray, List.set_cons_zero, List.set_cons_succ])
              | fail)
            go_ret
            exact ⟨rfl, hbC⟩
end Go.Proofs.Ytaoglljkghkbpab
