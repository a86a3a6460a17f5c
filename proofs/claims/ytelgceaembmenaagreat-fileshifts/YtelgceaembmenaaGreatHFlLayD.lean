/- Bytes laid into a file: lay, where the size is less than it was. -/
import Derived.Test.YtelgceaembmenaaGreatHFlText
import Derived.Test.YtelgceaembmenaaGreatHFlCalls
import Derived.Handy

namespace Go.Proofs.YtelgceaembmenaaGreat
open Go Go.RowKit
set_option linter.unusedSimpArgs false
set_option linter.unusedVariables false
section
variable {w : World} {x mf ml mc : Nat} {cp : Option Addr} {top : Int} {H : Nat → Hd} {D : Nat → Nat → Nat → Nat} {n sz st : Nat} {F : Nat → Nat}
/-- what Find answers -/
def FnK (s : ByteArray) (F : Nat → Nat) (sz a : Nat) (re : Int) : Prop := ((∃ p : Nat, re = (p : Int) ∧ a ≤ p ∧ p + s.size ≤ sz ∧ AtK (tbyte s) F s.size p ∧ ∀ q, a ≤ q → q < p → ¬ AtK (tbyte s) F s.size q) ∨ (re = -1 ∧ ∀ q, a ≤ q → q + s.size ≤ sz → ¬ AtK (tbyte s) F s.size q))
set_option maxRecDepth 100000 in
set_option maxHeartbeats 8000000 in
theorem IM.find0 (h : IM w x mf ml mc cp top H D) (hf : Fi H D n sz st F) (s : ByteArray) (hs : s.size ≤ 40000) (a : Nat) (ha : a + s.size ≤ sz) : Calls Tryz.prog 32 #[.pointer (some ⟨x, 0, none⟩), .agg (fiC n sz st), .int .i64 (a : Int), .string s] w fun e w' => (∃ re, e = .returned (.tuple #[.int .i64 re, .int .i64 0]) ∧ FnK s F sz a re) ∧ Below w.heap.size w w' := by
  have hle := hf.le
  have hz := zero_bk
  have HST : Hid (∀ V : World, Calls Tryz.prog 55 #[.string s] V fun e w' => ∃ (g : Nat) (sh : Nat → Nat), e = .returned (.slice (some ⟨g, 0, none⟩) (s.size + 1) (s.size + 1)) ∧ Blk w' g 3 (va (s.size + 1) (iv .i64 sh)) ∧ (∀ i, 1 ≤ i → i ≤ s.size → ShK (tbyte s) sh i) ∧ V.heap.size ≤ g ∧ Below V.heap.size V w') := starts_any s hs
  have HLF : Hid (∀ V, Below w.heap.size w V → ∀ q : Nat, q < 4096 → Calls Tryz.prog 34 #[.pointer (some ⟨x, 0, none⟩), .int .i64 (n : Int), .int .i64 (q : Int)] V fun e w' => e = .returned (.tuple #[.agg (va 256 (iv .u8 (D n q))), .int .i64 0]) ∧ Below V.heap.size V w') := fun V hV q hq => (h.below hV).leafF hf q hq
  have HDF : Hid (∀ p, p < sz → D n (p / 256) (p % 256) = F p) := fun p hp => by
    have := hf.leaf (p / 256) (p % 256) (Nat.mod_lt _ (by decide)) (by omega)
    rw [show 256 * (p / 256) + p % 256 = p by omega] at this
    exact this
  have HA : Hid (a + s.size ≤ sz ∧ sz ≤ 1048576 ∧ s.size ≤ 40000) := ⟨ha, hle, hs⟩
  have zb : (sz : Int) ≤ 1048576 := by omega
  have mb : (s.size : Int) ≤ 40000 := by omega
  have ab : (a : Int) ≤ 1048576 := by omega
  have B0 : Hid (Below w.heap.size w ((w.alloc (.cells (fiC n sz st) 74)).alloc (.cells (va 256 (iv .u8 fun _ => 0)) 96)) ∧ Blk ((w.alloc (.cells (fiC n sz st) 74)).alloc (.cells (va 256 (iv .u8 fun _ => 0)) 96)) w.heap.size 74 (fiC n sz st) ∧ Blk ((w.alloc (.cells (fiC n sz st) 74)).alloc (.cells (va 256 (iv .u8 fun _ => 0)) 96)) (w.heap.size + 1) 96 (va 256 (iv .u8 fun _ => 0))) := ⟨below_new2 _ _ _, (Blk.new _ _ _).alloc _, Blk.new1 _ _ _ _⟩
  clear h hf hs ha hle
  go_enter Tryz.func32, Tryz.ntmps32
  go_wp2_with fail
  generalize ((w.alloc (.cells (fiC n sz st) 74)).alloc (.cells (va 256 (iv .u8 fun _ => 0)) 96)) = w1 at *
  refine (HST.out _).mono ?_
  rintro e w2 ⟨g, sh, rfl, hG, hSH, hg, hb2⟩
  have HSH : Hid (∀ i, 1 ≤ i → i ≤ s.size → ShK (tbyte s) sh i) := hSH
  have G2 : Hid (Below w.heap.size w w2 ∧ Blk w2 w.heap.size 74 (fiC n sz st) ∧ Blk w2 (w.heap.size + 1) 96 (va 256 (iv .u8 fun _ => 0)) ∧ Blk w2 g 3 (va (s.size + 1) (iv .i64 sh)) ∧ w.heap.size + 1 < g) := ⟨B0.out.1.trans (hb2.mono B0.out.1.size), B0.out.2.1.below hb2 B0.out.2.1.lt, B0.out.2.2.below hb2 B0.out.2.2.lt, hG, by have := B0.out.2.2.lt; omega⟩
  obtain ⟨m1, hm1⟩ : ∃ m, m = s.size + 1 := ⟨_, rfl⟩
  rw [← hm1] at G2 ⊢
  have HM1 : Hid (m1 = s.size + 1) := hm1
  have HLO : Hid (∀ (d c : Nat) (V : World), d < s.size → Blk V g 3 (va m1 (iv .i64 sh)) → Calls Tryz.prog 56 #[.string s, .slice (some ⟨g, 0, none⟩) m1 m1, .int .i64 (d : Int), .int .u8 (c : Int)] V fun e w' => (∃ r : Nat, e = .returned (.int .i64 (r : Int)) ∧ LoK (tbyte s) d c r) ∧ w' = V) := fun d c V hd hB => longer_any s g m1 m1 d c sh hd (by have := HA.out; omega) (by omega) V (fun j hj => fk_cell hB j (by omega)) (fun j h4 h5 => HSH.out j h4 (by omega))
  clear hG hSH hg hb2 B0 hm1 HST
  go_wp2_with fail
  go_loopw [12, 13] (fun v12 v13 wr => Hid (∃ (d p : Nat) (L : Nat → Nat), v12 = .int .i64 (d : Int) ∧ v13 = .int .i64 (p : Int) ∧ FdK (tbyte s) F s.size a p d ∧ p ≤ sz + 1 ∧ a ≤ p ∧ (p = a ∨ ∀ i, L i = D n ((p - 1) / 256) i) ∧ Below w.heap.size w wr ∧ Blk wr w.heap.size 74 (fiC n sz st) ∧ Blk wr (w.heap.size + 1) 96 (va 256 (iv .u8 L)) ∧ Blk wr g 3 (va m1 (iv .i64 sh)))) (fun _ v13 _ => sz + 2 - (intOf v13).toNat)
  case atStart => exact ⟨0, a, fun _ => 0, rfl, rfl, FdK.start _ _, by have := HA.out; omega, Nat.le_refl _, .inl rfl, G2.out.1, G2.out.2.1, G2.out.2.2.1, G2.out.2.2.2.1⟩
  case round =>
    obtain ⟨d, p, L, rfl, rfl, hF, hpz, hap, hL, hbel, b0, b1, b2⟩ := Hid.out hrel
    have HF : Hid (FdK (tbyte s) F s.size a p d ∧ (p = a ∨ ∀ i, L i = D n ((p - 1) / 256) i)) := ⟨hF, hL⟩
    have hdm := hF.le
    have HGG : Hid (w.heap.size + 1 < g) := G2.out.2.2.2.2
    have c3 : wr.cell? ⟨w.heap.size, 3, none⟩ = some (.int .i64 (sz : Int)) := fi_c3 b0
    have c0 : wr.cell? ⟨w.heap.size, 0, none⟩ = some (.int .i64 (n : Int)) := fi_c0 b0
    have d1 : (d : Int) ≤ (s.size : Int) := by omega
    have p1 : (p : Int) ≤ 1048577 := by have := HA.out; omega
    have HB : Hid (Below w.heap.size w wr ∧ Blk wr w.heap.size 74 (fiC n sz st) ∧ Blk wr (w.heap.size + 1) 96 (va 256 (iv .u8 L)) ∧ Blk wr g 3 (va m1 (iv .i64 sh))) := ⟨hbel, b0, b1, b2⟩
    clear hrel hF hL hbel b0 b2 G2
    by_cases hgo : (s.size : Int) - (d : Int) ≤ (sz : Int) - (p : Int)
    · by_cases hdone : d = s.size
      · have e1 : ((d : Int) == (s.size : Int)) = true := by rw [hdone]; simp
        have HR : Hid (d ≤ p ∧ FnK s F sz a ((p - d : Nat) : Int)) := by
          obtain ⟨h1, h2, h3, h4⟩ := HF.out.1.found hdone
          exact ⟨h3, .inl ⟨p - d, rfl, h2, by omega, h1, h4⟩⟩
        have e2 : (p : Int) - (d : Int) = ((p - d : Nat) : Int) := by have := HR.out.1; omega
        clear hdone b1
        obtain ⟨rp, hrp⟩ : ∃ r, r = p - d := ⟨_, rfl⟩
        rw [← hrp] at e2 HR
        clear hrp
        go_wp2_with fail
        go_ret2
        exact ⟨⟨(rp : Int), rfl, HR.out.2⟩, HB.out.1⟩
      · have e1 : ((d : Int) == (s.size : Int)) = false := by simp; omega
        have hdl : d < s.size := by omega
        have hps : p < sz := by omega
        have em : (p : Int) % 256 = ((p % 256 : Nat) : Int) := by omega
        have eq : (p : Int) / 256 = ((p / 256 : Nat) : Int) := by omega
        obtain ⟨rm, hrm⟩ : ∃ r, r = p % 256 := ⟨_, rfl⟩
        obtain ⟨qu, hqu⟩ : ∃ r, r = p / 256 := ⟨_, rfl⟩
        rw [← hrm] at em
        rw [← hqu] at eq
        have rm1 : (rm : Int) < 256 := by omega
        have rmN : rm < 256 := by omega
        have qu1 : qu < 4096 := by have := HA.out; omega
        have HPQ : Hid (rm = p % 256 ∧ qu = p / 256 ∧ D n qu rm = F p ∧ d < s.size ∧ p < sz ∧ rm < 256) := ⟨hrm, hqu, by rw [hrm, hqu]; exact HDF.out p hps, hdl, hps, by omega⟩
        clear hrm hqu hdone
        by_cases hload : p = a ∨ rm = 0
        · by_cases h1 : p = a
          · have e3 : ((p : Int) == (a : Int)) = true := by rw [h1]; simp
            clear h1
            have HLq1 := HLF.out wr HB.out.1 qu qu1
            clear b1 hload
            go_wp2_with fail
            refine HLq1.mono ?_
            rintro e w5 ⟨rfl, hb5⟩
            have q1 : Blk w5 (w.heap.size + 1) 96 (va 256 (iv .u8 L)) := HB.out.2.2.1.below hb5 HB.out.2.2.1.lt
            have b5 : Blk (w5.setRow (w.heap.size + 1) (va 256 (iv .u8 (D n qu)))) (w.heap.size + 1) 96 (va 256 (iv .u8 (D n qu))) := q1.set _
            have HX : Hid (Below w.heap.size w (w5.setRow (w.heap.size + 1) (va 256 (iv .u8 (D n qu)))) ∧ Blk (w5.setRow (w.heap.size + 1) (va 256 (iv .u8 (D n qu)))) w.heap.size 74 (fiC n sz st) ∧ Blk (w5.setRow (w.heap.size + 1) (va 256 (iv .u8 (D n qu)))) g 3 (va m1 (iv .i64 sh))) := by
              have hbb := HB.out.1.trans (hb5.mono HB.out.1.size)
              exact ⟨below_setRow hbb (Nat.le_succ _) _, (HB.out.2.1.below hb5 HB.out.2.1.lt).other _ (by omega), (HB.out.2.2.2.below hb5 HB.out.2.2.2.lt).other _ (by have := HGG.out; omega)⟩
            have c5 : (w5.setRow (w.heap.size + 1) (va 256 (iv .u8 (D n qu)))).cell? ⟨w.heap.size + 1, rm, none⟩ = some (.int .u8 ((F p : Nat) : Int)) := by
              have : (w5.setRow (w.heap.size + 1) (va 256 (iv .u8 (D n qu)))).cell? ⟨w.heap.size + 1, rm, none⟩ = some (.int .u8 ((D n qu rm : Nat) : Int)) := b5.cv rmN
              rw [HPQ.out.2.2.1] at this
              exact this
            have HLq := HLO.out d (F p) _ hdl HX.out.2.2
            obtain ⟨fp, hfp⟩ : ∃ r, r = F p := ⟨_, rfl⟩
            rw [← hfp] at c5 HLq
            have HFP : Hid (fp = F p) := hfp
            have HB5 : Hid (Blk (w5.setRow (w.heap.size + 1) (va 256 (iv .u8 (D n qu)))) (w.heap.size + 1) 96 (va 256 (iv .u8 (D n qu)))) := b5
            clear b5 hfp hb5 HLq1 HB
            go_wp2_with (first
              | (refine wpList_store_row (by rfl) 96 _ _ (by rfl) (w.heap.size + 1) (va 256 (iv .u8 (D n qu))) (by rfl) (by rfl) 96 _ q1 (sizeBk.trans (by rw [va_size])) (by simp only [va_size]) (iv_one _ _ _) ?_; simp only [Act.put, List.setIfInBounds_toArray, List.set_cons_zero, List.set_cons_succ])
              | fail)
            generalize (w5.setRow (w.heap.size + 1) (va 256 (iv .u8 (D n qu)))) = w7 at *
            refine HLq.mono ?_
            rintro e w6 ⟨⟨r, rfl, hr⟩, hw6⟩
            subst hw6
            have HN : Hid (FdK (tbyte s) F s.size a (p + 1) r) := HF.out.1.next hdl (by rw [← HFP.out]; exact hr)
            clear hr HLq c5 q1
            go_wp2_with fail
            go_roundw
            case rel => exact ⟨r, p + 1, D n qu, rfl, by first | rfl | go_num | simp, HN.out, by omega, by omega, .inr fun i => by rw [show (p + 1 - 1) / 256 = qu by have := HPQ.out; omega], HX.out.1, HX.out.2.1, HB5.out, HX.out.2.2⟩
            case measure => simp [intOf]; omega
          · have e3 : ((p : Int) == (a : Int)) = false := by simp; omega
            have e4 : ((rm : Int) == 0) = true := by
              have : rm = 0 := by
                rcases hload with h | h
                · exact absurd h h1
                · exact h
              rw [this]; simp
            clear h1
            have HLq1 := HLF.out wr HB.out.1 qu qu1
            clear b1 hload
            go_wp2_with fail
            refine HLq1.mono ?_
            rintro e w5 ⟨rfl, hb5⟩
            have q1 : Blk w5 (w.heap.size + 1) 96 (va 256 (iv .u8 L)) := HB.out.2.2.1.below hb5 HB.out.2.2.1.lt
            have b5 : Blk (w5.setRow (w.heap.size + 1) (va 256 (iv .u8 (D n qu)))) (w.heap.size + 1) 96 (va 256 (iv .u8 (D n qu))) := q1.set _
            have HX : Hid (Below w.heap.size w (w5.setRow (w.heap.size + 1) (va 256 (iv .u8 (D n qu)))) ∧ Blk (w5.setRow (w.heap.size + 1) (va 256 (iv .u8 (D n qu)))) w.heap.size 74 (fiC n sz st) ∧ Blk (w5.setRow (w.heap.size + 1) (va 256 (iv .u8 (D n qu)))) g 3 (va m1 (iv .i64 sh))) := by
              have hbb := HB.out.1.trans (hb5.mono HB.out.1.size)
              exact ⟨below_setRow hbb (Nat.le_succ _) _, (HB.out.2.1.below hb5 HB.out.2.1.lt).other _ (by omega), (HB.out.2.2.2.below hb5 HB.out.2.2.2.lt).other _ (by have := HGG.out; omega)⟩
            have c5 : (w5.setRow (w.heap.size + 1) (va 256 (iv .u8 (D n qu)))).cell? ⟨w.heap.size + 1, rm, none⟩ = some (.int .u8 ((F p : Nat) : Int)) := by
              have : (w5.setRow (w.heap.size + 1) (va 256 (iv .u8 (D n qu)))).cell? ⟨w.heap.size + 1, rm, none⟩ = some (.int .u8 ((D n qu rm : Nat) : Int)) := b5.cv rmN
              rw [HPQ.out.2.2.1] at this
              exact this
            have HLq := HLO.out d (F p) _ hdl HX.out.2.2
            obtain ⟨fp, hfp⟩ : ∃ r, r = F p := ⟨_, rfl⟩
            rw [← hfp] at c5 HLq
            have HFP : Hid (fp = F p) := hfp
            have HB5 : Hid (Blk (w5.setRow (w.heap.size + 1) (va 256 (iv .u8 (D n qu)))) (w.heap.size + 1) 96 (va 256 (iv .u8 (D n qu)))) := b5
            clear b5 hfp hb5 HLq1 HB
            go_wp2_with (first
              | (refine wpList_store_row (by rfl) 96 _ _ (by rfl) (w.heap.size + 1) (va 256 (iv .u8 (D n qu))) (by rfl) (by rfl) 96 _ q1 (sizeBk.trans (by rw [va_size])) (by simp only [va_size]) (iv_one _ _ _) ?_; simp only [Act.put, List.setIfInBounds_toArray, List.set_cons_zero, List.set_cons_succ])
              | fail)
            generalize (w5.setRow (w.heap.size + 1) (va 256 (iv .u8 (D n qu)))) = w7 at *
            refine HLq.mono ?_
            rintro e w6 ⟨⟨r, rfl, hr⟩, hw6⟩
            subst hw6
            have HN : Hid (FdK (tbyte s) F s.size a (p + 1) r) := HF.out.1.next hdl (by rw [← HFP.out]; exact hr)
            clear hr HLq c5 q1
            go_wp2_with fail
            go_roundw
            case rel => exact ⟨r, p + 1, D n qu, rfl, by first | rfl | go_num | simp, HN.out, by omega, by omega, .inr fun i => by rw [show (p + 1 - 1) / 256 = qu by have := HPQ.out; omega], HX.out.1, HX.out.2.1, HB5.out, HX.out.2.2⟩
            case measure => simp [intOf]; omega
        · have h1 : ¬ p = a := fun h => hload (.inl h)
          have h2 : ¬ rm = 0 := fun h => hload (.inr h)
          have e3 : ((p : Int) == (a : Int)) = false := by simp; omega
          have e4 : ((rm : Int) == 0) = false := by simp; omega
          have HLL : Hid (∀ i, L i = D n qu i) := fun i => by
            rcases HF.out.2 with h | h
            · exact absurd h h1
            · rw [h i]
              have := HPQ.out
              congr 1
              omega
          have b5 : Blk wr (w.heap.size + 1) 96 (va 256 (iv .u8 (D n qu))) := by
            have e : va 256 (iv .u8 (D n qu)) = va 256 (iv .u8 L) := va_congr fun i hi => by unfold iv; rw [HLL.out i]
            rw [e]
            exact b1
          clear hload h1 h2 b1
          have HB2 : Hid (Below w.heap.size w wr ∧ Blk wr w.heap.size 74 (fiC n sz st) ∧ Blk wr g 3 (va m1 (iv .i64 sh))) := ⟨HB.out.1, HB.out.2.1, HB.out.2.2.2⟩
          have c5 : wr.cell? ⟨w.heap.size + 1, rm, none⟩ = some (.int .u8 ((F p : Nat) : Int)) := by
            have : wr.cell? ⟨w.heap.size + 1, rm, none⟩ = some (.int .u8 ((D n qu rm : Nat) : Int)) := b5.cv rmN
            rw [HPQ.out.2.2.1] at this
            exact this
          have HLq := HLO.out d (F p) wr hdl HB2.out.2.2
          obtain ⟨fp, hfp⟩ : ∃ r, r = F p := ⟨_, rfl⟩
          rw [← hfp] at c5 HLq
          have HFP : Hid (fp = F p) := hfp
          have HB5 : Hid (Blk wr (w.heap.size + 1) 96 (va 256 (iv .u8 (D n qu)))) := b5
          clear b5 hfp
          go_wp2_with fail
          refine HLq.mono ?_
          rintro e w6 ⟨⟨r, rfl, hr⟩, hw6⟩
          subst hw6
          have HN : Hid (FdK (tbyte s) F s.size a (p + 1) r) := HF.out.1.next hdl (by rw [← HFP.out]; exact hr)
          clear hr HLq c5
          go_wp2_with fail
          go_roundw
          case rel => exact ⟨r, p + 1, D n qu, rfl, by first | rfl | go_num | simp, HN.out, by omega, by omega, .inr fun i => by rw [show (p + 1 - 1) / 256 = qu by have := HPQ.out; omega], HB2.out.1, HB2.out.2.1, HB5.out, HB2.out.2.2⟩
          case measure => simp [intOf]; omega
    · have HR : Hid (FnK s F sz a (-1)) := .inr ⟨rfl, HF.out.1.none (by omega) (by omega)⟩
      clear b1
      go_wp2_with fail
      go_ret2
      exact ⟨⟨-1, rfl, HR.out⟩, HB.out.1⟩
end
end Go.Proofs.YtelgceaembmenaaGreat

namespace Go.Proofs.YtelgceaembmenaaGreat
open Go Go.RowKit
set_option linter.unusedSimpArgs false
set_option linter.unusedVariables false
section
variable {w : World} {x mf ml mc : Nat} {cp : Option Addr} {top : Int} {H : Nat → Hd} {D : Nat → Nat → Nat → Nat} {n sz st : Nat} {F : Nat → Nat}
set_option maxRecDepth 100000 in
set_option maxHeartbeats 4000000 in
theorem IM.findF (h : IM w x mf ml mc cp top H D) (hf : Fi H D n sz st F) (s : ByteArray) (hs : s.size ≤ 40000) (a : Nat) (ha : a ≤ 9223372036854775807) : Calls Tryz.prog 12 #[.pointer (some ⟨x, 0, none⟩), .int .i64 (n : Int), .int .i64 (a : Int), .string s] w fun e w' => (∃ re, e = .returned (.tuple #[.int .i64 re, .int .i64 0]) ∧ FnK s F sz a re) ∧ Below w.heap.size w w' := by
  have H1 := h.oneF hf
  have hle := hf.le
  have hzi : ∀ w, (zeroValue 74).run Tryz.prog w = .ok (.agg if0) w := zero_info
  have HFD : Hid (a + s.size ≤ sz → ∀ V, Below w.heap.size w V → Calls Tryz.prog 32 #[.pointer (some ⟨x, 0, none⟩), .agg (fiC n sz st), .int .i64 (a : Int), .string s] V fun e w' => (∃ re, e = .returned (.tuple #[.int .i64 re, .int .i64 0]) ∧ FnK s F sz a re) ∧ Below V.heap.size V w') := fun hh V hV => (h.below hV).find0 hf s hs a hh
  have a0 : ¬ ((a : Int) < 0) := by omega
  have ab : (a : Int) ≤ 9223372036854775807 := by omega
  have zb : (sz : Int) ≤ 1048576 := by omega
  have mb : (s.size : Int) ≤ 40000 := by omega
  have HFN : Hid (¬ a + s.size ≤ sz → FnK s F sz a (-1)) := fun hn => .inr ⟨rfl, fun q h1 h2 => absurd h2 (by omega)⟩
  clear h hf
  go_enter Tryz.func12, Tryz.ntmps12
  go_wp2_with fail
  refine H1.mono ?_
  rintro e w2 ⟨rfl, hb2⟩
  have u1 : Blk (w2.alloc (.cells if0 74)) w2.heap.size 74 if0 := Blk.new _ _ _
  have u2 := u1.set (fiC n sz st)
  have c3 : ((w2.alloc (.cells if0 74)).setRow w2.heap.size (fiC n sz st)).cell? ⟨w2.heap.size, 3, none⟩ = some (.int .i64 (sz : Int)) := (u2.cell 3).trans rfl
  have HE : Hid (Below w.heap.size w ((w2.alloc (.cells if0 74)).setRow w2.heap.size (fiC n sz st))) := below_setRow (hb2.alloc hb2.size _) hb2.size _
  clear hb2 H1
  by_cases hh : a + s.size ≤ sz
  · have g1 : ¬ ((sz : Int) - (a : Int) < (s.size : Int)) := by omega
    have H2 := HFD.out hh
    have HFD2 : Hid _ := H2
    clear H2
    go_wp2_with (first
    | (refine wpList_store_row (by rfl) 74 _ _ (by rfl) (w2.heap.size) (fiC n sz st) (by rfl) (by rfl) 74 if0 (by exact u1) (sizeInfo.trans (by rfl)) (by rfl) (fi_all _ _ _) ?_; simp only [Act.put, List.setIfInBounds_toArray, List.set_cons_zero, List.set_cons_succ])
      | (refine wpList_load_row (by rfl) 74 _ (by rfl) (w2.heap.size) (by rfl) 74 (fiC n sz st) (0, 0) _ (by exact u2) Tryz.underlying74 (by rfl) (sizeInfo.trans (by rfl)) ?_; simp only [Act.put, List.setIfInBounds_toArray, List.set_cons_zero, List.set_cons_succ])
      | fail)
    refine (HFD2.out _ HE.out).mono ?_
    rintro e w4 ⟨⟨re, rfl, hre⟩, hb4⟩
    have HR : Hid (FnK s F sz a re ∧ Below w.heap.size w w4) := ⟨hre, HE.out.trans (hb4.mono HE.out.size)⟩
    clear hre hb4
    go_wp2_with fail
    go_ret2
    exact ⟨⟨re, rfl, HR.out.1⟩, HR.out.2⟩
  · have g1 : (sz : Int) - (a : Int) < (s.size : Int) := by omega
    have HR := HFN.out hh
    have HR2 : Hid (FnK s F sz a (-1)) := HR
    clear HR
    go_wp2_with (first
    | (refine wpList_store_row (by rfl) 74 _ _ (by rfl) (w2.heap.size) (fiC n sz st) (by rfl) (by rfl) 74 if0 (by exact u1) (sizeInfo.trans (by rfl)) (by rfl) (fi_all _ _ _) ?_; simp only [Act.put, List.setIfInBounds_toArray, List.set_cons_zero, List.set_cons_succ])
      | fail)
    go_ret2
    exact ⟨⟨-1, rfl, HR2.out⟩, HE.out⟩
end
end Go.Proofs.YtelgceaembmenaaGreat

namespace Go.Proofs.YtelgceaembmenaaGreat
open Go Go.RowKit
set_option linter.unusedSimpArgs false
set_option linter.unusedVariables false
section
variable {w : World} {x mf ml mc : Nat} {cp : Option Addr} {top : Int} {H : Nat → Hd} {D : Nat → Nat → Nat → Nat} {n sz st : Nat} {F : Nat → Nat}
theorem empty_text {s : ByteArray} (h : s.size = 0) : s = ⟨#[]⟩ := by
  cases s with | mk d => simp [ByteArray.size] at h; simp [h]
theorem fl_full {t : ByteArray} (h : 0 < t.size) : t.toList.isEmpty = false := by
  rw [ByteArray.toList_eq]
  cases ht : t.data.toList with
  | nil =>
    have : t.data.toList.length = t.size := Array.length_toList
    rw [ht] at this
    simp at this
    omega
  | cons a l => rfl
set_option maxRecDepth 100000 in
theorem write_none (xp : Value) (n sz st a s' : Nat) (ha : a ≤ 1048576) (w : World) : Calls Tryz.prog 27 #[xp, .agg (fiC n sz st), .int .i64 (a : Int), .string ⟨#[]⟩, .int .u64 ((s' : Nat) : Int)] w fun e w' => e = .returned (.int .i64 0) ∧ Below w.heap.size w w' := by
  have HB := tooBig_any (a : Int) 0 (by omega) (by omega) (w.alloc (.cells (fiC n sz st) 74))
  rw [decide_eq_false (by omega)] at HB
  have hb1 : Below w.heap.size w (w.alloc (.cells (fiC n sz st) 74)) := below_new1 _ _
  go_enter Tryz.func27, Tryz.ntmps27
  go_wp2_with fail
  refine HB.mono ?_
  rintro e w1 ⟨rfl, hw⟩
  rw [hw]
  clear hw w1
  go_wp2_with fail
  go_ret
  exact ⟨rfl, hb1⟩
set_option maxRecDepth 100000 in
set_option maxHeartbeats 4000000 in
theorem IM.write (h : IM w x mf ml mc cp top H D) (hf : Fi H D n sz st F) (s : ByteArray) (a s' : Nat) (hs : 0 < s.size) (ha : a + s.size ≤ 1048576) : Calls Tryz.prog 27 #[.pointer (some ⟨x, 0, none⟩), .agg (fiC n sz st), .int .i64 (a : Int), .string s, .int .u64 ((s' : Nat) : Int)] w fun e w' => e = .returned (.int .i64 0) ∧ Now w' x mf ml mc cp top H D n (max sz (a + s.size)) s' (wrF F sz s a) ∧ Turns (fun z => z = ml ∨ z = mf) w w' := by
  have HB := tooBig_any (a : Int) s.size (by omega) (by omega) (w.alloc (.cells (fiC n sz st) 74))
  rw [decide_eq_false (by omega)] at HB
  have hb1 : Below w.heap.size w (w.alloc (.cells (fiC n sz st) 74)) := below_new1 _ _
  have u2 : Blk (w.alloc (.cells (fiC n sz st) 74)) w.heap.size 74 (fiC n sz st) := Blk.new _ _ _
  have c3 := fi_c3 u2
  have HL := (h.below hb1).lay hf s a (max sz (a + s.size)) s' hs (by omega) (by have := hf.le; omega) (by omega)
  obtain ⟨S, hS⟩ : ∃ S : Nat, s.size = S := ⟨_, rfl⟩
  obtain ⟨en, hen⟩ : ∃ en : Nat, a + S = en := ⟨_, rfl⟩
  obtain ⟨z, hz⟩ : ∃ z : Nat, max sz en = z := ⟨_, rfl⟩
  rw [hS, hen, hz] at HL
  rw [hS, hen, hz]
  rw [hS] at HB
  have hne : s.toList.isEmpty = false := fl_full hs
  have e1 : (a : Int) + (S : Int) = (en : Int) := by omega
  have e2 : max (sz : Int) (en : Int) = (z : Int) := by omega
  have b1 : en ≤ 1048576 := by omega
  clear h hf hs ha hen hz
  go_enter Tryz.func27, Tryz.ntmps27
  go_wp2_with fail
  refine HB.mono ?_
  rintro e w1 ⟨rfl, hw⟩
  rw [hw]
  clear hw w1 HB
  go_wp2_with (first
    | (refine wpList_load_row (by rfl) 74 _ (by rfl) (w.heap.size) (by rfl) 74 (fiC n sz st) (0, 0) _ (by exact u2) Tryz.underlying74 (by rfl) (sizeInfo.trans (by rfl)) ?_; simp only [Act.put, List.setIfInBounds_toArray, List.set_cons_zero, List.set_cons_succ])
    | fail)
  refine HL.mono ?_
  rintro e w2 ⟨rfl, hN, hT⟩
  have HE : Hid (Now w2 x mf ml mc cp top H D n z s' (wrF F sz s a) ∧ Turns (fun z => z = ml ∨ z = mf) w w2) := ⟨hN, (Turns.bel hb1).tr hT⟩
  clear HL hN hT
  go_wp2_with fail
  go_ret
  exact ⟨rfl, HE.out⟩
set_option maxRecDepth 100000 in
set_option maxHeartbeats 4000000 in
theorem IM.writeNone (h : IM w x mf ml mc cp top H D) (hf : Fi H D n sz st F) (a s' : Nat) (ha : a ≤ 1048576) : Calls Tryz.prog 9 #[.pointer (some ⟨x, 0, none⟩), .int .i64 (n : Int), .int .i64 (a : Int), .string ⟨#[]⟩, .int .u64 ((s' : Nat) : Int)] w fun e w' => e = .returned (.tuple #[.int .i64 (a : Int), .int .i64 0]) ∧ Below w.heap.size w w' := by
  have H1 := h.oneF hf
  have hzi : ∀ w, (zeroValue 74).run Tryz.prog w = .ok (.agg if0) w := zero_info
  have HW : Hid (∀ V : World, Calls Tryz.prog 27 #[.pointer (some ⟨x, 0, none⟩), .agg (fiC n sz st), .int .i64 (a : Int), .string ⟨#[]⟩, .int .u64 ((s' : Nat) : Int)] V fun e w' => e = .returned (.int .i64 0) ∧ Below V.heap.size V w') := fun V => write_none _ n sz st a s' ha V
  have a0 : ¬ ((a : Int) < 0) := by omega
  clear h hf
  go_enter Tryz.func9, Tryz.ntmps9
  go_wp2_with fail
  refine H1.mono ?_
  rintro e w2 ⟨rfl, hb2⟩
  have u1 : Blk (w2.alloc (.cells if0 74)) w2.heap.size 74 if0 := Blk.new _ _ _
  have u2 := u1.set (fiC n sz st)
  have c3 : ((w2.alloc (.cells if0 74)).setRow w2.heap.size (fiC n sz st)).cell? ⟨w2.heap.size, 3, none⟩ = some (.int .i64 (sz : Int)) := (u2.cell 3).trans rfl
  have HE : Hid (Below w.heap.size w ((w2.alloc (.cells if0 74)).setRow w2.heap.size (fiC n sz st))) := below_setRow (hb2.alloc hb2.size _) hb2.size _
  have HS2 : Hid (w.heap.size ≤ w2.heap.size) := hb2.size
  clear hb2 H1
  have H3 := HW.out ((w2.alloc (.cells if0 74)).setRow w2.heap.size (fiC n sz st))
  go_wp2_with (first
    | (refine wpList_store_row (by rfl) 74 _ _ (by rfl) (w2.heap.size) (fiC n sz st) (by rfl) (by rfl) 74 if0 (by exact u1) (sizeInfo.trans (by rfl)) (by rfl) (fi_all _ _ _) ?_; simp only [Act.put, List.setIfInBounds_toArray, List.set_cons_zero, List.set_cons_succ])
    | (refine wpList_load_row (by rfl) 74 _ (by rfl) (w2.heap.size) (by rfl) 74 (fiC n sz st) (0, 0) _ (by exact u2) Tryz.underlying74 (by rfl) (sizeInfo.trans (by rfl)) ?_; simp only [Act.put, List.setIfInBounds_toArray, List.set_cons_zero, List.set_cons_succ])
    | fail)
  refine H3.mono ?_
  rintro e w4 ⟨rfl, hb4⟩
  have hb5 : Below w.heap.size w w4 := HE.out.trans (hb4.mono HE.out.size)
  have c4 : w4.cell? ⟨w2.heap.size, 3, none⟩ = some (.int .i64 (sz : Int)) := fi_c3 (u2.below hb4 u2.lt)
  clear H3 c3 u1 u2 HE hb4
  go_wp2_with fail
  go_ret2
  exact ⟨rfl, hb5⟩
set_option maxRecDepth 100000 in
set_option maxHeartbeats 4000000 in
theorem IM.writeOk (h : IM w x mf ml mc cp top H D) (hf : Fi H D n sz st F) (a s' : Nat) (s : ByteArray) (hs : 0 < s.size) (ha : a + s.size ≤ 1048576) : Calls Tryz.prog 9 #[.pointer (some ⟨x, 0, none⟩), .int .i64 (n : Int), .int .i64 (a : Int), .string s, .int .u64 ((s' : Nat) : Int)] w fun e w' => e = .returned (.tuple #[.int .i64 ((a + s.size : Nat) : Int), .int .i64 0]) ∧ Now w' x mf ml mc cp top H D n (max sz (a + s.size)) s' (wrF F sz s a) ∧ Turns (fun z => z = ml ∨ z = mf) w w' := by
  have H1 := h.oneF hf
  have hzi : ∀ w, (zeroValue 74).run Tryz.prog w = .ok (.agg if0) w := zero_info
  have HW : Hid (∀ V, Below w.heap.size w V → Calls Tryz.prog 27 #[.pointer (some ⟨x, 0, none⟩), .agg (fiC n sz st), .int .i64 (a : Int), .string s, .int .u64 ((s' : Nat) : Int)] V fun e w' => e = .returned (.int .i64 0) ∧ Now w' x mf ml mc cp top H D n (max sz (a + s.size)) s' (wrF F sz s a) ∧ Turns (fun z => z = ml ∨ z = mf) V w') := fun V hV => (h.below hV).write hf s a s' hs ha
  have a0 : ¬ ((a : Int) < 0) := by omega
  obtain ⟨S, hS⟩ : ∃ S : Nat, s.size = S := ⟨_, rfl⟩
  obtain ⟨en, hen⟩ : ∃ en : Nat, a + S = en := ⟨_, rfl⟩
  rw [hS, hen] at HW
  rw [hS, hen]
  have e1 : (a : Int) + (S : Int) = (en : Int) := by omega
  have b1 : en ≤ 1048576 := by omega
  clear hf hs ha hen
  go_enter Tryz.func9, Tryz.ntmps9
  go_wp2_with fail
  refine H1.mono ?_
  rintro e w2 ⟨rfl, hb2⟩
  have u1 : Blk (w2.alloc (.cells if0 74)) w2.heap.size 74 if0 := Blk.new _ _ _
  have u2 := u1.set (fiC n sz st)
  have c3 : ((w2.alloc (.cells if0 74)).setRow w2.heap.size (fiC n sz st)).cell? ⟨w2.heap.size, 3, none⟩ = some (.int .i64 (sz : Int)) := (u2.cell 3).trans rfl
  have HE : Hid (Below w.heap.size w ((w2.alloc (.cells if0 74)).setRow w2.heap.size (fiC n sz st))) := below_setRow (hb2.alloc hb2.size _) hb2.size _
  have HS2 : Hid (w.heap.size ≤ w2.heap.size) := hb2.size
  clear hb2 H1
  have H3 := HW.out _ HE.out
  go_wp2_with (first
    | (refine wpList_store_row (by rfl) 74 _ _ (by rfl) (w2.heap.size) (fiC n sz st) (by rfl) (by rfl) 74 if0 (by exact u1) (sizeInfo.trans (by rfl)) (by rfl) (fi_all _ _ _) ?_; simp only [Act.put, List.setIfInBounds_toArray, List.set_cons_zero, List.set_cons_succ])
    | (refine wpList_load_row (by rfl) 74 _ (by rfl) (w2.heap.size) (by rfl) 74 (fiC n sz st) (0, 0) _ (by exact u2) Tryz.underlying74 (by rfl) (sizeInfo.trans (by rfl)) ?_; simp only [Act.put, List.setIfInBounds_toArray, List.set_cons_zero, List.set_cons_succ])
    | fail)
  refine H3.mono ?_
  rintro e w4 ⟨rfl, hN, hT⟩
  have hlx := h.lts
  have c4 : w4.cell? ⟨w2.heap.size, 3, none⟩ = some (.int .i64 (sz : Int)) := fi_c3 ((hT.block _ u2.lt (by have := HS2.out; omega)).trans u2)
  have HE5 : Hid (_ ∧ _) := ⟨hN, (Turns.bel HE.out).tr hT⟩
  clear H3 c3 u1 u2 HE hN hT
  go_wp2_with fail
  go_ret2
  exact ⟨rfl, HE5.out⟩
end
end Go.Proofs.YtelgceaembmenaaGreat

namespace Go.Proofs.YtelgceaembmenaaGreat
open Go Go.RowKit
set_option linter.unusedSimpArgs false
set_option linter.unusedVariables false
section
variable {w w' : World} {x mf ml mc : Nat} {cp : Option Addr} {top : Int} {H : Nat → Hd} {D : Nat → Nat → Nat → Nat} {n o st : Nat} {F : Nat → Nat}
theorem layd_bytes (hf : Fi H D n o st F) (s : ByteArray) (a z : Nat) (hoz : z < o) (haz : a + s.size ≤ z) (p : Nat) (hp : p < z) : wrF F o s a p = fzF (paF F (fun p => ovF (D n) s a z (256 * (a / 256) + p)) (a / 256) (cvN a s.size)) o p := by
  unfold fzF
  rw [if_pos (by omega)]
  unfold paF
  by_cases c : a / 256 ≤ p / 256 ∧ p / 256 < a / 256 + cvN a s.size
  · rw [if_pos c]
    show _ = ovF (D n) s a z (256 * (a / 256) + (p - 256 * (a / 256)))
    rw [show 256 * (a / 256) + (p - 256 * (a / 256)) = p by omega, ovF_in _ _ _ _ _ (by omega) hp]
    unfold wrF
    by_cases c2 : a ≤ p ∧ p < a + s.size
    · rw [if_pos c2, if_pos c2]
    · rw [if_neg c2, if_neg c2, hf.bs (p / 256) (p % 256) (by omega), show 256 * (p / 256) + p % 256 = p by omega]
  · rw [if_neg c]
    unfold wrF
    rw [if_neg, if_pos (by omega)]
    unfold cvN at c
    omega
set_option maxRecDepth 100000 in
set_option maxHeartbeats 16000000 in
theorem IM.layDown (h : IM w x mf ml mc cp top H D) (hf : Fi H D n o st F) (s : ByteArray) (a z s' : Nat) (hoz : z < o) (haz : a + s.size ≤ z) : Calls Tryz.prog 38 #[.pointer (some ⟨x, 0, none⟩), .agg (fiC n o st), .int .i64 (a : Int), .string s, .int .i64 (z : Int), .int .u64 ((s' : Nat) : Int)] w fun e w' => e = .returned (.int .i64 0) ∧ Now w' x mf ml mc cp top H D n z s' (wrF F o s a) ∧ Turns (fun z => z = ml ∨ z = mf) w w' := by
  have HBY : Hid (∀ p, p < z → wrF F o s a p = fzF (paF F (fun p => ovF (D n) s a z (256 * (a / 256) + p)) (a / 256) (cvN a s.size)) o p) := layd_bytes hf s a z hoz haz
  have hole := hf.le
  have hz : z ≤ 1048576 := by omega
  obtain ⟨q0, hq0⟩ : ∃ q0 : Nat, a / 256 = q0 := ⟨_, rfl⟩
  obtain ⟨c, hc⟩ : ∃ c : Nat, cvN a s.size = c := ⟨_, rfl⟩
  obtain ⟨G, hG⟩ : ∃ G : Nat → Nat, (fun p => ovF (D n) s a z (256 * (a / 256) + p)) = G := ⟨_, rfl⟩
  have hc1 : q0 + c ≤ (o + 255) / 256 := by rw [← hc, ← hq0]; unfold cvN; omega
  have HLD := laid_any (w := w.alloc (.cells (fiC n o st) 74)) (x := x) (n := n) (sz := o) (st := st) (L := D n) s a z hz (by omega) (fun V hV q hq => ((h.below (below_new1 _ _)).below hV).leafF hf q hq)
  rw [hc, hG] at HLD
  rw [hc, hG, hq0] at HBY
  have k0 : Blk (w.alloc (.cells (fiC n o st) 74)) w.heap.size 74 (fiC n o st) := Blk.new _ _ _
  have hb0 : Below w.heap.size w (w.alloc (.cells (fiC n o st) 74)) := below_new1 _ _
  have HI : Hid (IM w x mf ml mc cp top H D ∧ Fi H D n o st F ∧ Blk (w.alloc (.cells (fiC n o st) 74)) w.heap.size 74 (fiC n o st) ∧ Below w.heap.size w (w.alloc (.cells (fiC n o st) 74))) := ⟨h, hf, k0, hb0⟩
  have HZ : Hid (z < o ∧ o ≤ 1048576 ∧ q0 + c ≤ (o + 255) / 256) := ⟨hoz, hole, hc1⟩
  have ha1 : a ≤ 1048576 := by omega
  have hc2 : c ≤ 4096 := by omega
  have hq1 : q0 ≤ 4096 := by omega
  have e1 : (a : Int).tdiv 256 = (q0 : Int) := by rw [← hq0]; rfl
  have hzk := zero_bk
  have t1 : ¬ ((o : Int) < (z : Int)) := by omega
  have t2 : (z : Int) < (o : Int) := by omega
  have t3 : decide (o < z) = false := decide_eq_false (by omega)
  have t4 : decide ((o : Int) < (z : Int)) = false := decide_eq_false (by omega)
  clear h hf hb0 hG hc hq0 hoz haz hc1
  go_enter Tryz.func38, Tryz.ntmps38
  go_wp2_with (first
    | (refine wpList_load_row (by rfl) 74 _ (by rfl) (w.heap.size) (by rfl) 74 (fiC n o st) (0, 0) _ (by exact k0) Tryz.underlying74 (by rfl) (sizeInfo.trans (by rfl)) ?_; simp only [Act.put, List.setIfInBounds_toArray, List.set_cons_zero, List.set_cons_succ])
    | fail)
  refine HLD.mono ?_
  rintro e w1 ⟨v, rfl, hown, hbw⟩
  have hl := HI.out.1.lts
  have hb1 : Below w.heap.size w w1 := HI.out.2.2.2.trans (hbw.mono (by simp))
  have hk1 : Blk w1 w.heap.size 74 (fiC n o st) := HI.out.2.2.1.below hbw (by simp)
  have c3 := fi_c3 hk1
  have c0 := fi_c0 hk1
  have hN1 : Now w1 x mf ml mc cp top H D n o st F := ⟨H, D, HI.out.1.below hb1, HI.out.2.1, fun _ _ => ⟨rfl, rfl⟩⟩
  have hT1 : Turns (fun z => z = ml ∨ z = mf) w w1 := Turns.bel hb1
  have hs1 := hb1.size
  rcases hown.2 with ⟨rfl, hc0⟩ | ⟨g, cap, cur, rfl, hg1', hcu0, _, _, _, htk⟩
  · subst hc0
    clear HLD hown k0 hbw
    go_wp2_with fail
    go_loopw [46] (fun t wr => t = .int .i64 0 ∧ wr = w1) (fun _ _ => 0)
    case atStart => exact ⟨rfl, rfl⟩
    case round =>
      obtain ⟨rfl, hwr⟩ := hrel
      rw [hwr]
      clear hwr
      obtain ⟨H', D', hI, hf, hm⟩ := hN1
      have hT := hT1
      have c3' := c3
      have HRS := hI.resizeM n hf.n1 hf.n2 o z s' hf.no hf.left hf.s (.inl hf.k) hf.le hz (fun q i hi hp => by rw [hf.bs q i hi, if_neg (by omega)])
      have HF2 : Hid (Fi (hU H' n (rsH (hdT (H' n) s') o z)) (rsD D' n z) n z s' (wrF F o s a)) := (hf.resize z s' hz).congr fun p hp => by rw [HBY.out p hp]; unfold fzF paF; rw [if_pos (by have := HZ.out; omega), if_neg (by omega), if_pos (by have := HZ.out; omega)]
      have HM : Hid (∀ m, m ≠ n → H' m = H m ∧ D' m = D m) := hm
      have HT : Hid (Turns (fun z => z = ml ∨ z = mf) w w1) := hT
      clear hI hf hm hT
      go_wp2_with fail
      refine HRS.mono ?_
      rintro e w2 ⟨rfl, hI2, ht2⟩
      have HE : Hid (Now w2 x mf ml mc cp top H D n z s' (wrF F o s a) ∧ Turns (fun z => z = ml ∨ z = mf) w w2) := ⟨⟨_, _, hI2, HF2.out, fun m hm => ⟨(hU_not _ _ _ _ hm).trans (HM.out m hm).1, (rsD_not _ _ _ _ hm).trans (HM.out m hm).2⟩⟩, HT.out.tr ht2⟩
      clear HRS HF2 hI2 ht2
      go_wp2_with fail
      go_ret
      exact ⟨rfl, HE.out⟩
  · have hg1 : w.heap.size + 1 ≤ g := by simpa using hg1'
    have hg2 : g < w1.heap.size := (Array.getElem?_eq_some_iff.1 hcu0).1
    clear HLD hown k0 hbw hg1'
    go_wp2_with fail
    go_loopw [46] (fun t wr => ∃ k : Nat, k ≤ c ∧ t = .int .i64 (k : Int) ∧ (∃ st', Now wr x mf ml mc cp top H D n o st' (paF F G q0 k)) ∧ (∀ g, w.heap.size + 1 ≤ g → g < w1.heap.size → wr.heap[g]? = w1.heap[g]?) ∧ Blk wr w.heap.size 74 (fiC n o st) ∧ Turns (fun z => z = ml ∨ z = mf) w wr ∧ w1.heap.size ≤ wr.heap.size) (fun t _ => c - (intOf t).toNat)
    case atStart =>
      obtain ⟨H', D', h1, h2, h3⟩ := hN1
      exact ⟨0, Nat.zero_le _, rfl, ⟨st, H', D', h1, h2.congr fun p _ => by unfold paF; rw [if_neg (by omega)], h3⟩, fun _ _ _ => rfl, hk1, hT1, Nat.le_refl _⟩
    case round =>
      obtain ⟨k, hk, rfl, ⟨st', H', D', hI, hf, hm⟩, hkeep, hkI, hT, hsz⟩ := hrel
      clear c0 c3 hk1 hN1 hT1
      have c0 := fi_c0 hkI
      have c3 := fi_c3 hkI
      have hlw := hI.lts
      by_cases hlt : k < c
      · have k0 : (0 : Int) ≤ (k : Int) := by omega
        have k1 : (k : Int) < (c : Int) := by omega
        have hcu : wr.heap[g]? = some (.cells cur 96 (0, 0)) := (hkeep g hg1 hg2).trans hcu0
        obtain ⟨q, hq⟩ : ∃ q : Nat, q0 + k = q := ⟨_, rfl⟩
        have e2 : (q0 : Int) + (k : Int) = (q : Int) := by omega
        have hq4 : q ≤ 4096 := by have := HZ.out; omega
        obtain ⟨f, hfl⟩ : ∃ f : Nat → Nat, (fun j => G (k * 256 + j)) = f := ⟨_, rfl⟩
        have HR : Hid (wr.rangeAt g (k * 256) ((List.range 256).map (iv .u8 f))) := by
          rw [← hfl]
          exact fl_range hcu htk hlt
        have c1 := Blk.new wr 96 (va 256 (iv .u8 fun _ => 0))
        have c2 := c1.set (va 256 (iv .u8 f))
        have hbB : Below wr.heap.size wr ((wr.alloc (Obj.cells (va 256 (iv IntKind.u8 fun _ => 0)) 96)).setRow wr.heap.size (va 256 (iv .u8 f))) := below_setRow (below_new1 wr _) (Nat.le_refl _) _
        have c0' : ((wr.alloc (Obj.cells (va 256 (iv IntKind.u8 fun _ => 0)) 96)).setRow wr.heap.size (va 256 (iv .u8 f))).cell? ⟨w.heap.size, 0, none⟩ = some (.int .i64 (n : Int)) := fi_c0 (hkI.below hbB hkI.lt)
        have HST := (hI.below hbB).setM n q hf.n1 hf.n2 (by rw [hf.k]; decide) hf.no o s' f hf.s (by have := HZ.out; omega) (by have := HZ.out; omega)
        have HF3 : Hid (Fi (hU H' n (hdT (hdS (H' n)) s')) (dU D' n q (upF f (o - q * 256))) n o s' (paF F G q0 (k + 1))) := by
          refine (hf.set q s' f).congr fun p _ => ?_
          rw [← hq, ← hfl]
          exact pa_next _ _ _ _ _
        have HM : Hid (∀ m, m ≠ n → H' m = H m ∧ D' m = D m) := hm
        have HKI : Hid (Blk wr w.heap.size 74 (fiC n o st) ∧ (∀ g, w.heap.size + 1 ≤ g → g < w1.heap.size → wr.heap[g]? = w1.heap[g]?) ∧ Turns (fun z => z = ml ∨ z = mf) w wr ∧ w1.heap.size ≤ wr.heap.size) := ⟨hkI, hkeep, hT, hsz⟩
        clear hI hf hm hkI hcu hT hfl hkeep
        go_wp2_with (first
          | (refine wpList_load_blk (by rfl) 96 _ (by rfl) g (k * 256) 256 (iv .u8 f) (by rfl) _ HR.out Tryz.underlying96 rfl sizeBk ?_; simp only [Act.put, List.setIfInBounds_toArray, List.set_cons_zero, List.set_cons_succ])
          | (refine wpList_store_row (by rfl) 96 _ _ (by rfl) (wr.heap.size) (va 256 (iv .u8 f)) (by rfl) (by rfl) 96 _ c1 (sizeBk.trans (by rw [va_size])) (by simp only [va_size]) (iv_one _ _ _) ?_; simp only [Act.put, List.setIfInBounds_toArray, List.set_cons_zero, List.set_cons_succ])
          | (refine wpList_load_row (by rfl) 96 _ (by rfl) (wr.heap.size) (by rfl) 96 (va 256 (iv .u8 f)) (0, 0) _ c2 Tryz.underlying96 (by rfl) (sizeBk.trans (by rw [va_size])) ?_; simp only [Act.put, List.setIfInBounds_toArray, List.set_cons_zero, List.set_cons_succ])
          | fail)
        refine HST.mono ?_
        rintro e w7 ⟨rfl, hI7, ht7⟩
        have hT7 : Turns (fun z => z = ml ∨ z = mf) wr w7 := (Turns.bel hbB).tr ht7
        have hN7 : Now w7 x mf ml mc cp top H D n o s' (paF F G q0 (k + 1)) := ⟨_, _, hI7, HF3.out, fun m hm => ⟨(hU_not _ _ _ _ hm).trans (HM.out m hm).1, (dU_not _ _ _ _ _ hm).trans (HM.out m hm).2⟩⟩
        have hc7 : ∀ g, w.heap.size + 1 ≤ g → g < w1.heap.size → w7.heap[g]? = w1.heap[g]? := fun g g1 g2 => (hT7.block g (by have := HKI.out.2.2.2; omega) (by omega)).trans (HKI.out.2.1 g g1 g2)
        have hk7 : Blk w7 w.heap.size 74 (fiC n o st) := (hT7.block _ HKI.out.1.lt (by omega)).trans HKI.out.1
        have hTT : Turns (fun z => z = ml ∨ z = mf) w w7 := HKI.out.2.2.1.tr hT7
        have hs7 : w1.heap.size ≤ w7.heap.size := Nat.le_trans HKI.out.2.2.2 hT7.size
        clear HST hI7 ht7 c1 c2 hbB c0' HR HF3 HM HKI hT7
        go_wp2_with fail
        go_roundw
        case rel => exact ⟨k + 1, hlt, by simp, ⟨s', hN7⟩, hc7, hk7, hTT, hs7⟩
        case measure =>
          simp [intOf]
          omega
      · have hkc : k = c := by omega
        have k1 : ¬ ((k : Int) < (c : Int)) := by omega
        have HRS := hI.resizeM n hf.n1 hf.n2 o z s' hf.no hf.left hf.s (.inl hf.k) hf.le hz (fun q i hi hp => by rw [hf.bs q i hi, if_neg (by omega)])
        have HF2 : Hid (Fi (hU H' n (rsH (hdT (H' n) s') o z)) (rsD D' n z) n z s' (wrF F o s a)) := (hf.resize z s' hz).congr fun p hp => by rw [HBY.out p hp, ← hkc]
        have HM : Hid (∀ m, m ≠ n → H' m = H m ∧ D' m = D m) := hm
        have HT : Hid (Turns (fun z => z = ml ∨ z = mf) w wr) := hT
        clear hI hf hm hT hlt hkeep
        go_wp2_with fail
        refine HRS.mono ?_
        rintro e w2 ⟨rfl, hI2, ht2⟩
        have HE : Hid (Now w2 x mf ml mc cp top H D n z s' (wrF F o s a) ∧ Turns (fun z => z = ml ∨ z = mf) w w2) := ⟨⟨_, _, hI2, HF2.out, fun m hm => ⟨(hU_not _ _ _ _ hm).trans (HM.out m hm).1, (rsD_not _ _ _ _ hm).trans (HM.out m hm).2⟩⟩, HT.out.tr ht2⟩
        clear HRS HF2 hI2 ht2
        go_wp2_with fail
        go_ret
        exact ⟨rfl, HE.out⟩
end
end Go.Proofs.YtelgceaembmenaaGreat
