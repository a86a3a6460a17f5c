/- A disk that is quiet and a cache on it, without a log: what Get answers is what the disk's bytes say; all that turns lies in a set of blocks. -/
import Derived.Test.YtelgceaembmenaaGreatHFlText
import Derived.Test.YtelgceaembmenaaGreatHFlCalls
import Derived.Handy
import Derived.Test.YtelgceaembmenaaGreatHCaKit
import Derived.Test.YtelgceaembmenaaGreatHSegsS
import Derived.Test.YtelgceaembmenaaGreatHDkWrite
import Derived.Deep.DeepCutAuto
import Derived.Deep.Cut
import Derived.Test.YtelgceaembmenaaGreatHCaMap

namespace Go.Proofs.YtelgceaembmenaaGreat
open Go Go.RowKit
set_option linter.unusedSimpArgs false
set_option linter.unusedVariables false
section
variable {w : World} {x mf ml mc : Nat} {cp : Option Addr} {top : Int} {H : Nat → Hd} {D : Nat → Nat → Nat → Nat} {n sz st : Nat} {F : Nat → Nat}
/-- what Find answers -/
def FnK (s : ByteArray) (F : Nat → Nat) (sz a : Nat) (re : Int) : Prop := ((∃ p : Nat, re = (p : Int) ∧ a ≤ p ∧ p + s.size ≤ sz ∧ AtK (tbyte s) F s.size p ∧ ∀ q, a ≤ q → q < p → ¬ AtK (tbyte s) F s.size q) ∨ (re = -1 ∧ ∀ q, a ≤ q → q + s.size ≤ sz → ¬ AtK (tbyte s) F s.size q))
set_option maxRecDepth 100000 in
set_option maxHeartbeats 8000000 in
theorem IM.find0 (h : IM w x mf ml mc cp top H D) (hf : Fi H D n sz st F) (s : ByteArray) (hs : s.size ≤ 40000) (a : Nat) (ha : a + s.size ≤ sz) : Calls Tryz.prog 32 #[.pointer (some ⟨x, 0, none⟩), .agg (fiC n sz st), .int .i64 (a : Int), .string s] w fun e w' => (∃ re, e = .returned (.tuple #[.int .i64 re, .int .i64 0]) ∧ FnK s F sz a re) ∧ Below w.heap.size w w' := by
  have hle := hf.le
  have hz := zero_bk
  have HST : Hid (∀ V : World, Calls Tryz.prog 55 #[.string s] V fun e w' => ∃ (g : Nat) (sh : Nat → Nat), e = .returned (.slice (some ⟨g, 0, none⟩) (s.size + 1) (s.size + 1)) ∧ Blk w' g 3 (va (s.size + 1) (iv .i64 sh)) ∧ (∀ i, 1 ≤ i → i ≤ s.size → ShK (tbyte s) sh i) ∧ V.heap.size ≤ g ∧ Below V.heap.size V w') := starts_any s hs
  have HLF : Hid (∀ V, Below w.heap.size w V → ∀ q : Nat, q < 4096 → Calls Tryz.prog 34 #[.pointer (some ⟨x, 0, none⟩), .int .i64 (n : Int), .int .i64 (q : Int)] V fun e w' => e = .returned (.tuple #[.agg (va 256 (iv .u8 (D n q))), .int .i64 0]) ∧ Below V.heap.size V w') := fun V hV q hq => (h.below hV).leafF hf q hq
  have HDF : Hid (∀ p, p < sz → D n (p / 256) (p % 256) = F p) := fun p hp => by
    have := hf.leaf (p / 256) (p % 256) (Nat.mod_lt _ (by decide)) (by omega)
    rw [show 256 * (p / 256) + p % 256 = p by omega] at this
    exact this
  have HA : Hid (a + s.size ≤ sz ∧ sz ≤ 1048576 ∧ s.size ≤ 40000) := ⟨ha, hle, hs⟩
  have zb : (sz : Int) ≤ 1048576 := by omega
  have mb : (s.size : Int) ≤ 40000 := by omega
  have ab : (a : Int) ≤ 1048576 := by omega
  have B0 : Hid (Below w.heap.size w ((w.alloc (.cells (fiC n sz st) 74)).alloc (.cells (va 256 (iv .u8 fun _ => 0)) 96)) ∧ Blk ((w.alloc (.cells (fiC n sz st) 74)).alloc (.cells (va 256 (iv .u8 fun _ => 0)) 96)) w.heap.size 74 (fiC n sz st) ∧ Blk ((w.alloc (.cells (fiC n sz st) 74)).alloc (.cells (va 256 (iv .u8 fun _ => 0)) 96)) (w.heap.size + 1) 96 (va 256 (iv .u8 fun _ => 0))) := ⟨below_new2 _ _ _, (Blk.new _ _ _).alloc _, Blk.new1 _ _ _ _⟩
  clear h hf hs ha hle
  go_enter Tryz.func32, Tryz.ntmps32
  go_wp2_with fail
  generalize ((w.alloc (.cells (fiC n sz st) 74)).alloc (.cells (va 256 (iv .u8 fun _ => 0)) 96)) = w1 at *
  refine (HST.out _).mono ?_
  rintro e w2 ⟨g, sh, rfl, hG, hSH, hg, hb2⟩
  have HSH : Hid (∀ i, 1 ≤ i → i ≤ s.size → ShK (tbyte s) sh i) := hSH
  have G2 : Hid (Below w.heap.size w w2 ∧ Blk w2 w.heap.size 74 (fiC n sz st) ∧ Blk w2 (w.heap.size + 1) 96 (va 256 (iv .u8 fun _ => 0)) ∧ Blk w2 g 3 (va (s.size + 1) (iv .i64 sh)) ∧ w.heap.size + 1 < g) := ⟨B0.out.1.trans (hb2.mono B0.out.1.size), B0.out.2.1.below hb2 B0.out.2.1.lt, B0.out.2.2.below hb2 B0.out.2.2.lt, hG, by have := B0.out.2.2.lt; omega⟩
  obtain ⟨m1, hm1⟩ : ∃ m, m = s.size + 1 := ⟨_, rfl⟩
  rw [← hm1] at G2 ⊢
  have HM1 : Hid (m1 = s.size + 1) := hm1
  have HLO : Hid (∀ (d c : Nat) (V : World), d < s.size → Blk V g 3 (va m1 (iv .i64 sh)) → Calls Tryz.prog 56 #[.string s, .slice (some ⟨g, 0, none⟩) m1 m1, .int .i64 (d : Int), .int .u8 (c : Int)] V fun e w' => (∃ r : Nat, e = .returned (.int .i64 (r : Int)) ∧ LoK (tbyte s) d c r) ∧ w' = V) := fun d c V hd hB => longer_any s g m1 m1 d c sh hd (by have := HA.out; omega) (by omega) V (fun j hj => fk_cell hB j (by omega)) (fun j h4 h5 => HSH.out j h4 (by omega))
  clear hG hSH hg hb2 B0 hm1 HST
  go_wp2_with fail
  go_loopw [12, 13] (fun v12 v13 wr => Hid (∃ (d p : Nat) (L : Nat → Nat), v12 = .int .i64 (d : Int) ∧ v13 = .int .i64 (p : Int) ∧ FdK (tbyte s) F s.size a p d ∧ p ≤ sz + 1 ∧ a ≤ p ∧ (p = a ∨ ∀ i, L i = D n ((p - 1) / 256) i) ∧ Below w.heap.size w wr ∧ Blk wr w.heap.size 74 (fiC n sz st) ∧ Blk wr (w.heap.size + 1) 96 (va 256 (iv .u8 L)) ∧ Blk wr g 3 (va m1 (iv .i64 sh)))) (fun _ v13 _ => sz + 2 - (intOf v13).toNat)
  case atStart => exact ⟨0, a, fun _ => 0, rfl, rfl, FdK.start _ _, by have := HA.out; omega, Nat.le_refl _, .inl rfl, G2.out.1, G2.out.2.1, G2.out.2.2.1, G2.out.2.2.2.1⟩
  case round =>
    obtain ⟨d, p, L, rfl, rfl, hF, hpz, hap, hL, hbel, b0, b1, b2⟩ := Hid.out hrel
    have HF : Hid (FdK (tbyte s) F s.size a p d ∧ (p = a ∨ ∀ i, L i = D n ((p - 1) / 256) i)) := ⟨hF, hL⟩
    have hdm := hF.le
    have HGG : Hid (w.heap.size + 1 < g) := G2.out.2.2.2.2
    have c3 : wr.cell? ⟨w.heap.size, 3, none⟩ = some (.int .i64 (sz : Int)) := fi_c3 b0
    have c0 : wr.cell? ⟨w.heap.size, 0, none⟩ = some (.int .i64 (n : Int)) := fi_c0 b0
    have d1 : (d : Int) ≤ (s.size : Int) := by omega
    have p1 : (p : Int) ≤ 1048577 := by have := HA.out; omega
    have HB : Hid (Below w.heap.size w wr ∧ Blk wr w.heap.size 74 (fiC n sz st) ∧ Blk wr (w.heap.size + 1) 96 (va 256 (iv .u8 L)) ∧ Blk wr g 3 (va m1 (iv .i64 sh))) := ⟨hbel, b0, b1, b2⟩
    clear hrel hF hL hbel b0 b2 G2
    by_cases hgo : (s.size : Int) - (d : Int) ≤ (sz : Int) - (p : Int)
    · by_cases hdone : d = s.size
      · have e1 : ((d : Int) == (s.size : Int)) = true := by rw [hdone]; simp
        have HR : Hid (d ≤ p ∧ FnK s F sz a ((p - d : Nat) : Int)) := by
          obtain ⟨h1, h2, h3, h4⟩ := HF.out.1.found hdone
          exact ⟨h3, .inl ⟨p - d, rfl, h2, by omega, h1, h4⟩⟩
        have e2 : (p : Int) - (d : Int) = ((p - d : Nat) : Int) := by have := HR.out.1; omega
        clear hdone b1
        obtain ⟨rp, hrp⟩ : ∃ r, r = p - d := ⟨_, rfl⟩
        rw [← hrp] at e2 HR
        clear hrp
        go_wp2_with fail
        go_ret2
        exact ⟨⟨(rp : Int), rfl, HR.out.2⟩, HB.out.1⟩
      · have e1 : ((d : Int) == (s.size : Int)) = false := by simp; omega
        have hdl : d < s.size := by omega
        have hps : p < sz := by omega
        have em : (p : Int) % 256 = ((p % 256 : Nat) : Int) := by omega
        have eq : (p : Int) / 256 = ((p / 256 : Nat) : Int) := by omega
        obtain ⟨rm, hrm⟩ : ∃ r, r = p % 256 := ⟨_, rfl⟩
        obtain ⟨qu, hqu⟩ : ∃ r, r = p / 256 := ⟨_, rfl⟩
        rw [← hrm] at em
        rw [← hqu] at eq
        have rm1 : (rm : Int) < 256 := by omega
        have rmN : rm < 256 := by omega
        have qu1 : qu < 4096 := by have := HA.out; omega
        have HPQ : Hid (rm = p % 256 ∧ qu = p / 256 ∧ D n qu rm = F p ∧ d < s.size ∧ p < sz ∧ rm < 256) := ⟨hrm, hqu, by rw [hrm, hqu]; exact HDF.out p hps, hdl, hps, by omega⟩
        clear hrm hqu hdone
        by_cases hload : p = a ∨ rm = 0
        · by_cases h1 : p = a
          · have e3 : ((p : Int) == (a : Int)) = true := by rw [h1]; simp
            clear h1
            have HLq1 := HLF.out wr HB.out.1 qu qu1
            clear b1 hload
            go_wp2_with fail
            refine HLq1.mono ?_
            rintro e w5 ⟨rfl, hb5⟩
            have q1 : Blk w5 (w.heap.size + 1) 96 (va 256 (iv .u8 L)) := HB.out.2.2.1.below hb5 HB.out.2.2.1.lt
            have b5 : Blk (w5.setRow (w.heap.size + 1) (va 256 (iv .u8 (D n qu)))) (w.heap.size + 1) 96 (va 256 (iv .u8 (D n qu))) := q1.set _
            have HX : Hid (Below w.heap.size w (w5.setRow (w.heap.size + 1) (va 256 (iv .u8 (D n qu)))) ∧ Blk (w5.setRow (w.heap.size + 1) (va 256 (iv .u8 (D n qu)))) w.heap.size 74 (fiC n sz st) ∧ Blk (w5.setRow (w.heap.size + 1) (va 256 (iv .u8 (D n qu)))) g 3 (va m1 (iv .i64 sh))) := by
              have hbb := HB.out.1.trans (hb5.mono HB.out.1.size)
              exact ⟨below_setRow hbb (Nat.le_succ _) _, (HB.out.2.1.below hb5 HB.out.2.1.lt).other _ (by omega), (HB.out.2.2.2.below hb5 HB.out.2.2.2.lt).other _ (by have := HGG.out; omega)⟩
            have c5 : (w5.setRow (w.heap.size + 1) (va 256 (iv .u8 (D n qu)))).cell? ⟨w.heap.size + 1, rm, none⟩ = some (.int .u8 ((F p : Nat) : Int)) := by
              have : (w5.setRow (w.heap.size + 1) (va 256 (iv .u8 (D n qu)))).cell? ⟨w.heap.size + 1, rm, none⟩ = some (.int .u8 ((D n qu rm : Nat) : Int)) := b5.cv rmN
              rw [HPQ.out.2.2.1] at this
              exact this
            have HLq := HLO.out d (F p) _ hdl HX.out.2.2
            obtain ⟨fp, hfp⟩ : ∃ r, r = F p := ⟨_, rfl⟩
            rw [← hfp] at c5 HLq
            have HFP : Hid (fp = F p) := hfp
            have HB5 : Hid (Blk (w5.setRow (w.heap.size + 1) (va 256 (iv .u8 (D n qu)))) (w.heap.size + 1) 96 (va 256 (iv .u8 (D n qu)))) := b5
            clear b5 hfp hb5 HLq1 HB
            go_wp2_with (first
              | (refine wpList_store_row (by rfl) 96 _ _ (by rfl) (w.heap.size + 1) (va 256 (iv .u8 (D n qu))) (by rfl) (by rfl) 96 _ q1 (sizeBk.trans (by rw [va_size])) (by simp only [va_size]) (iv_one _ _ _) ?_; simp only [Act.put, List.setIfInBounds_toArray, List.set_cons_zero, List.set_cons_succ])
              | fail)
            generalize (w5.setRow (w.heap.size + 1) (va 256 (iv .u8 (D n qu)))) = w7 at *
            refine HLq.mono ?_
            rintro e w6 ⟨⟨r, rfl, hr⟩, hw6⟩
            subst hw6
            have HN : Hid (FdK (tbyte s) F s.size a (p + 1) r) := HF.out.1.next hdl (by rw [← HFP.out]; exact hr)
            clear hr HLq c5 q1
            go_wp2_with fail
            go_roundw
            case rel => exact ⟨r, p + 1, D n qu, rfl, by first | rfl | go_num | simp, HN.out, by omega, by omega, .inr fun i => by rw [show (p + 1 - 1) / 256 = qu by have := HPQ.out; omega], HX.out.1, HX.out.2.1, HB5.out, HX.out.2.2⟩
            case measure => simp [intOf]; omega
          · have e3 : ((p : Int) == (a : Int)) = false := by simp; omega
            have e4 : ((rm : Int) == 0) = true := by
              have : rm = 0 := by
                rcases hload with h | h
                · exact absurd h h1
                · exact h
              rw [this]; simp
            clear h1
            have HLq1 := HLF.out wr HB.out.1 qu qu1
            clear b1 hload
            go_wp2_with fail
            refine HLq1.mono ?_
            rintro e w5 ⟨rfl, hb5⟩
            have q1 : Blk w5 (w.heap.size + 1) 96 (va 256 (iv .u8 L)) := HB.out.2.2.1.below hb5 HB.out.2.2.1.lt
            have b5 : Blk (w5.setRow (w.heap.size + 1) (va 256 (iv .u8 (D n qu)))) (w.heap.size + 1) 96 (va 256 (iv .u8 (D n qu))) := q1.set _
            have HX : Hid (Below w.heap.size w (w5.setRow (w.heap.size + 1) (va 256 (iv .u8 (D n qu)))) ∧ Blk (w5.setRow (w.heap.size + 1) (va 256 (iv .u8 (D n qu)))) w.heap.size 74 (fiC n sz st) ∧ Blk (w5.setRow (w.heap.size + 1) (va 256 (iv .u8 (D n qu)))) g 3 (va m1 (iv .i64 sh))) := by
              have hbb := HB.out.1.trans (hb5.mono HB.out.1.size)
              exact ⟨below_setRow hbb (Nat.le_succ _) _, (HB.out.2.1.below hb5 HB.out.2.1.lt).other _ (by omega), (HB.out.2.2.2.below hb5 HB.out.2.2.2.lt).other _ (by have := HGG.out; omega)⟩
            have c5 : (w5.setRow (w.heap.size + 1) (va 256 (iv .u8 (D n qu)))).cell? ⟨w.heap.size + 1, rm, none⟩ = some (.int .u8 ((F p : Nat) : Int)) := by
              have : (w5.setRow (w.heap.size + 1) (va 256 (iv .u8 (D n qu)))).cell? ⟨w.heap.size + 1, rm, none⟩ = some (.int .u8 ((D n qu rm : Nat) : Int)) := b5.cv rmN
              rw [HPQ.out.2.2.1] at this
              exact this
            have HLq := HLO.out d (F p) _ hdl HX.out.2.2
            obtain ⟨fp, hfp⟩ : ∃ r, r = F p := ⟨_, rfl⟩
            rw [← hfp] at c5 HLq
            have HFP : Hid (fp = F p) := hfp
            have HB5 : Hid (Blk (w5.setRow (w.heap.size + 1) (va 256 (iv .u8 (D n qu)))) (w.heap.size + 1) 96 (va 256 (iv .u8 (D n qu)))) := b5
            clear b5 hfp hb5 HLq1 HB
            go_wp2_with (first
              | (refine wpList_store_row (by rfl) 96 _ _ (by rfl) (w.heap.size + 1) (va 256 (iv .u8 (D n qu))) (by rfl) (by rfl) 96 _ q1 (sizeBk.trans (by rw [va_size])) (by simp only [va_size]) (iv_one _ _ _) ?_; simp only [Act.put, List.setIfInBounds_toArray, List.set_cons_zero, List.set_cons_succ])
              | fail)
            generalize (w5.setRow (w.heap.size + 1) (va 256 (iv .u8 (D n qu)))) = w7 at *
            refine HLq.mono ?_
            rintro e w6 ⟨⟨r, rfl, hr⟩, hw6⟩
            subst hw6
            have HN : Hid (FdK (tbyte s) F s.size a (p + 1) r) := HF.out.1.next hdl (by rw [← HFP.out]; exact hr)
            clear hr HLq c5 q1
            go_wp2_with fail
            go_roundw
            case rel => exact ⟨r, p + 1, D n qu, rfl, by first | rfl | go_num | simp, HN.out, by omega, by omega, .inr fun i => by rw [show (p + 1 - 1) / 256 = qu by have := HPQ.out; omega], HX.out.1, HX.out.2.1, HB5.out, HX.out.2.2⟩
            case measure => simp [intOf]; omega
        · have h1 : ¬ p = a := fun h => hload (.inl h)
          have h2 : ¬ rm = 0 := fun h => hload (.inr h)
          have e3 : ((p : Int) == (a : Int)) = false := by simp; omega
          have e4 : ((rm : Int) == 0) = false := by simp; omega
          have HLL : Hid (∀ i, L i = D n qu i) := fun i => by
            rcases HF.out.2 with h | h
            · exact absurd h h1
            · rw [h i]
              have := HPQ.out
              congr 1
              omega
          have b5 : Blk wr (w.heap.size + 1) 96 (va 256 (iv .u8 (D n qu))) := by
            have e : va 256 (iv .u8 (D n qu)) = va 256 (iv .u8 L) := va_congr fun i hi => by unfold iv; rw [HLL.out i]
            rw [e]
            exact b1
          clear hload h1 h2 b1
          have HB2 : Hid (Below w.heap.size w wr ∧ Blk wr w.heap.size 74 (fiC n sz st) ∧ Blk wr g 3 (va m1 (iv .i64 sh))) := ⟨HB.out.1, HB.out.2.1, HB.out.2.2.2⟩
          have c5 : wr.cell? ⟨w.heap.size + 1, rm, none⟩ = some (.int .u8 ((F p : Nat) : Int)) := by
            have : wr.cell? ⟨w.heap.size + 1, rm, none⟩ = some (.int .u8 ((D n qu rm : Nat) : Int)) := b5.cv rmN
            rw [HPQ.out.2.2.1] at this
            exact this
          have HLq := HLO.out d (F p) wr hdl HB2.out.2.2
          obtain ⟨fp, hfp⟩ : ∃ r, r = F p := ⟨_, rfl⟩
          rw [← hfp] at c5 HLq
          have HFP : Hid (fp = F p) := hfp
          have HB5 : Hid (Blk wr (w.heap.size + 1) 96 (va 256 (iv .u8 (D n qu)))) := b5
          clear b5 hfp
          go_wp2_with fail
          refine HLq.mono ?_
          rintro e w6 ⟨⟨r, rfl, hr⟩, hw6⟩
          subst hw6
          have HN : Hid (FdK (tbyte s) F s.size a (p + 1) r) := HF.out.1.next hdl (by rw [← HFP.out]; exact hr)
          clear hr HLq c5
          go_wp2_with fail
          go_roundw
          case rel => exact ⟨r, p + 1, D n qu, rfl, by first | rfl | go_num | simp, HN.out, by omega, by omega, .inr fun i => by rw [show (p + 1 - 1) / 256 = qu by have := HPQ.out; omega], HB2.out.1, HB2.out.2.1, HB5.out, HB2.out.2.2⟩
          case measure => simp [intOf]; omega
    · have HR : Hid (FnK s F sz a (-1)) := .inr ⟨rfl, HF.out.1.none (by omega) (by omega)⟩
      clear b1
      go_wp2_with fail
      go_ret2
      exact ⟨⟨-1, rfl, HR.out⟩, HB.out.1⟩
end
end Go.Proofs.YtelgceaembmenaaGreat

namespace Go.Proofs.YtelgceaembmenaaGreat
open Go Go.RowKit
set_option linter.unusedSimpArgs false
set_option linter.unusedVariables false
section
variable {w : World} {x mf ml mc : Nat} {cp : Option Addr} {top : Int} {H : Nat → Hd} {D : Nat → Nat → Nat → Nat} {n sz st : Nat} {F : Nat → Nat}
set_option maxRecDepth 100000 in
theorem IM.findBadF (h : IM w x mf ml mc cp top H D) (hf : Fi H D n sz st F) (a : Int) (hb : a < 0) (s : ByteArray) : Calls Tryz.prog 12 #[.pointer (some ⟨x, 0, none⟩), .int .i64 (n : Int), .int .i64 a, .string s] w fun e w' => e = .returned (.tuple #[.int .i64 0, .int .i64 1]) ∧ Below w.heap.size w w' := by
  have H1 := h.oneF hf
  have hzi : ∀ w, (zeroValue 74).run Tryz.prog w = .ok (.agg if0) w := zero_info
  clear h hf
  go_enter Tryz.func12, Tryz.ntmps12
  go_wp2_with fail
  refine H1.mono ?_
  rintro e w2 ⟨rfl, hb2⟩
  have u1 : Blk (w2.alloc (.cells if0 74)) w2.heap.size 74 if0 := Blk.new _ _ _
  have u2 := u1.set (fiC n sz st)
  have c3 : ((w2.alloc (.cells if0 74)).setRow w2.heap.size (fiC n sz st)).cell? ⟨w2.heap.size, 3, none⟩ = some (.int .i64 (sz : Int)) := (u2.cell 3).trans rfl
  have HE : Hid (Below w.heap.size w ((w2.alloc (.cells if0 74)).setRow w2.heap.size (fiC n sz st))) := below_setRow (hb2.alloc hb2.size _) hb2.size _
  clear hb2 H1
  go_wp2_with (first
    | (refine wpList_store_row (by rfl) 74 _ _ (by rfl) (w2.heap.size) (fiC n sz st) (by rfl) (by rfl) 74 if0 (by exact u1) (sizeInfo.trans (by rfl)) (by rfl) (fi_all _ _ _) ?_; simp only [Act.put, List.setIfInBounds_toArray, List.set_cons_zero, List.set_cons_succ])
    | fail)
  go_ret2
  exact ⟨rfl, HE.out⟩
set_option maxRecDepth 100000 in
set_option maxHeartbeats 4000000 in
theorem IM.findF (h : IM w x mf ml mc cp top H D) (hf : Fi H D n sz st F) (s : ByteArray) (hs : s.size ≤ 40000) (a : Nat) (ha : a ≤ 9223372036854775807) : Calls Tryz.prog 12 #[.pointer (some ⟨x, 0, none⟩), .int .i64 (n : Int), .int .i64 (a : Int), .string s] w fun e w' => (∃ re, e = .returned (.tuple #[.int .i64 re, .int .i64 0]) ∧ FnK s F sz a re) ∧ Below w.heap.size w w' := by
  have H1 := h.oneF hf
  have hle := hf.le
  have hzi : ∀ w, (zeroValue 74).run Tryz.prog w = .ok (.agg if0) w := zero_info
  have HFD : Hid (a + s.size ≤ sz → ∀ V, Below w.heap.size w V → Calls Tryz.prog 32 #[.pointer (some ⟨x, 0, none⟩), .agg (fiC n sz st), .int .i64 (a : Int), .string s] V fun e w' => (∃ re, e = .returned (.tuple #[.int .i64 re, .int .i64 0]) ∧ FnK s F sz a re) ∧ Below V.heap.size V w') := fun hh V hV => (h.below hV).find0 hf s hs a hh
  have a0 : ¬ ((a : Int) < 0) := by omega
  have ab : (a : Int) ≤ 9223372036854775807 := by omega
  have zb : (sz : Int) ≤ 1048576 := by omega
  have mb : (s.size : Int) ≤ 40000 := by omega
  have HFN : Hid (¬ a + s.size ≤ sz → FnK s F sz a (-1)) := fun hn => .inr ⟨rfl, fun q h1 h2 => absurd h2 (by omega)⟩
  clear h hf
  go_enter Tryz.func12, Tryz.ntmps12
  go_wp2_with fail
  refine H1.mono ?_
  rintro e w2 ⟨rfl, hb2⟩
  have u1 : Blk (w2.alloc (.cells if0 74)) w2.heap.size 74 if0 := Blk.new _ _ _
  have u2 := u1.set (fiC n sz st)
  have c3 : ((w2.alloc (.cells if0 74)).setRow w2.heap.size (fiC n sz st)).cell? ⟨w2.heap.size, 3, none⟩ = some (.int .i64 (sz : Int)) := (u2.cell 3).trans rfl
  have HE : Hid (Below w.heap.size w ((w2.alloc (.cells if0 74)).setRow w2.heap.size (fiC n sz st))) := below_setRow (hb2.alloc hb2.size _) hb2.size _
  clear hb2 H1
  by_cases hh : a + s.size ≤ sz
  · have g1 : ¬ ((sz : Int) - (a : Int) < (s.size : Int)) := by omega
    have H2 := HFD.out hh
    have HFD2 : Hid _ := H2
    clear H2
    go_wp2_with (first
    | (refine wpList_store_row (by rfl) 74 _ _ (by rfl) (w2.heap.size) (fiC n sz st) (by rfl) (by rfl) 74 if0 (by exact u1) (sizeInfo.trans (by rfl)) (by rfl) (fi_all _ _ _) ?_; simp only [Act.put, List.setIfInBounds_toArray, List.set_cons_zero, List.set_cons_succ])
      | (refine wpList_load_row (by rfl) 74 _ (by rfl) (w2.heap.size) (by rfl) 74 (fiC n sz st) (0, 0) _ (by exact u2) Tryz.underlying74 (by rfl) (sizeInfo.trans (by rfl)) ?_; simp only [Act.put, List.setIfInBounds_toArray, List.set_cons_zero, List.set_cons_succ])
      | fail)
    refine (HFD2.out _ HE.out).mono ?_
    rintro e w4 ⟨⟨re, rfl, hre⟩, hb4⟩
    have HR : Hid (FnK s F sz a re ∧ Below w.heap.size w w4) := ⟨hre, HE.out.trans (hb4.mono HE.out.size)⟩
    clear hre hb4
    go_wp2_with fail
    go_ret2
    exact ⟨⟨re, rfl, HR.out.1⟩, HR.out.2⟩
  · have g1 : (sz : Int) - (a : Int) < (s.size : Int) := by omega
    have HR := HFN.out hh
    have HR2 : Hid (FnK s F sz a (-1)) := HR
    clear HR
    go_wp2_with (first
    | (refine wpList_store_row (by rfl) 74 _ _ (by rfl) (w2.heap.size) (fiC n sz st) (by rfl) (by rfl) 74 if0 (by exact u1) (sizeInfo.trans (by rfl)) (by rfl) (fi_all _ _ _) ?_; simp only [Act.put, List.setIfInBounds_toArray, List.set_cons_zero, List.set_cons_succ])
      | fail)
    go_ret2
    exact ⟨⟨-1, rfl, HR2.out⟩, HE.out⟩
end
end Go.Proofs.YtelgceaembmenaaGreat

namespace Go.Proofs.YtelgceaembmenaaGreat
open Go Go.RowKit
set_option linter.unusedSimpArgs false
set_option linter.unusedVariables false
section
variable {w : World} {x mf ml mc : Nat} {cp : Option Addr} {top : Int} {H : Nat → Hd} {D : Nat → Nat → Nat → Nat} {n sz st : Nat} {F : Nat → Nat}
theorem empty_text {s : ByteArray} (h : s.size = 0) : s = ⟨#[]⟩ := by
  cases s with | mk d => simp [ByteArray.size] at h; simp [h]
theorem fl_full {t : ByteArray} (h : 0 < t.size) : t.toList.isEmpty = false := by
  rw [ByteArray.toList_eq]
  cases ht : t.data.toList with
  | nil =>
    have : t.data.toList.length = t.size := Array.length_toList
    rw [ht] at this
    simp at this
    omega
  | cons a l => rfl
set_option maxRecDepth 100000 in
theorem write_none (xp : Value) (n sz st a s' : Nat) (ha : a ≤ 1048576) (w : World) : Calls Tryz.prog 27 #[xp, .agg (fiC n sz st), .int .i64 (a : Int), .string ⟨#[]⟩, .int .u64 ((s' : Nat) : Int)] w fun e w' => e = .returned (.int .i64 0) ∧ Below w.heap.size w w' := by
  have HB := tooBig_any (a : Int) 0 (by omega) (by omega) (w.alloc (.cells (fiC n sz st) 74))
  rw [decide_eq_false (by omega)] at HB
  have hb1 : Below w.heap.size w (w.alloc (.cells (fiC n sz st) 74)) := below_new1 _ _
  go_enter Tryz.func27, Tryz.ntmps27
  go_wp2_with fail
  refine HB.mono ?_
  rintro e w1 ⟨rfl, hw⟩
  rw [hw]
  clear hw w1
  go_wp2_with fail
  go_ret
  exact ⟨rfl, hb1⟩
set_option maxRecDepth 100000 in
set_option maxHeartbeats 4000000 in
theorem IM.write (h : IM w x mf ml mc cp top H D) (hf : Fi H D n sz st F) (s : ByteArray) (a s' : Nat) (hs : 0 < s.size) (ha : a + s.size ≤ 1048576) : Calls Tryz.prog 27 #[.pointer (some ⟨x, 0, none⟩), .agg (fiC n sz st), .int .i64 (a : Int), .string s, .int .u64 ((s' : Nat) : Int)] w fun e w' => e = .returned (.int .i64 0) ∧ Now w' x mf ml mc cp top H D n (max sz (a + s.size)) s' (wrF F sz s a) ∧ Turns (fun z => z = ml ∨ z = mf) w w' := by
  have HB := tooBig_any (a : Int) s.size (by omega) (by omega) (w.alloc (.cells (fiC n sz st) 74))
  rw [decide_eq_false (by omega)] at HB
  have hb1 : Below w.heap.size w (w.alloc (.cells (fiC n sz st) 74)) := below_new1 _ _
  have u2 : Blk (w.alloc (.cells (fiC n sz st) 74)) w.heap.size 74 (fiC n sz st) := Blk.new _ _ _
  have c3 := fi_c3 u2
  have HL := (h.below hb1).lay hf s a (max sz (a + s.size)) s' hs (by omega) (by have := hf.le; omega) (by omega)
  obtain ⟨S, hS⟩ : ∃ S : Nat, s.size = S := ⟨_, rfl⟩
  obtain ⟨en, hen⟩ : ∃ en : Nat, a + S = en := ⟨_, rfl⟩
  obtain ⟨z, hz⟩ : ∃ z : Nat, max sz en = z := ⟨_, rfl⟩
  rw [hS, hen, hz] at HL
  rw [hS, hen, hz]
  rw [hS] at HB
  have hne : s.toList.isEmpty = false := fl_full hs
  have e1 : (a : Int) + (S : Int) = (en : Int) := by omega
  have e2 : max (sz : Int) (en : Int) = (z : Int) := by omega
  have b1 : en ≤ 1048576 := by omega
  clear h hf hs ha hen hz
  go_enter Tryz.func27, Tryz.ntmps27
  go_wp2_with fail
  refine HB.mono ?_
  rintro e w1 ⟨rfl, hw⟩
  rw [hw]
  clear hw w1 HB
  go_wp2_with (first
    | (refine wpList_load_row (by rfl) 74 _ (by rfl) (w.heap.size) (by rfl) 74 (fiC n sz st) (0, 0) _ (by exact u2) Tryz.underlying74 (by rfl) (sizeInfo.trans (by rfl)) ?_; simp only [Act.put, List.setIfInBounds_toArray, List.set_cons_zero, List.set_cons_succ])
    | fail)
  refine HL.mono ?_
  rintro e w2 ⟨rfl, hN, hT⟩
  have HE : Hid (Now w2 x mf ml mc cp top H D n z s' (wrF F sz s a) ∧ Turns (fun z => z = ml ∨ z = mf) w w2) := ⟨hN, (Turns.bel hb1).tr hT⟩
  clear HL hN hT
  go_wp2_with fail
  go_ret
  exact ⟨rfl, HE.out⟩
set_option maxRecDepth 100000 in
set_option maxHeartbeats 4000000 in
theorem IM.writeNone (h : IM w x mf ml mc cp top H D) (hf : Fi H D n sz st F) (a s' : Nat) (ha : a ≤ 1048576) : Calls Tryz.prog 9 #[.pointer (some ⟨x, 0, none⟩), .int .i64 (n : Int), .int .i64 (a : Int), .string ⟨#[]⟩, .int .u64 ((s' : Nat) : Int)] w fun e w' => e = .returned (.tuple #[.int .i64 (a : Int), .int .i64 0]) ∧ Below w.heap.size w w' := by
  have H1 := h.oneF hf
  have hzi : ∀ w, (zeroValue 74).run Tryz.prog w = .ok (.agg if0) w := zero_info
  have HW : Hid (∀ V : World, Calls Tryz.prog 27 #[.pointer (some ⟨x, 0, none⟩), .agg (fiC n sz st), .int .i64 (a : Int), .string ⟨#[]⟩, .int .u64 ((s' : Nat) : Int)] V fun e w' => e = .returned (.int .i64 0) ∧ Below V.heap.size V w') := fun V => write_none _ n sz st a s' ha V
  have a0 : ¬ ((a : Int) < 0) := by omega
  clear h hf
  go_enter Tryz.func9, Tryz.ntmps9
  go_wp2_with fail
  refine H1.mono ?_
  rintro e w2 ⟨rfl, hb2⟩
  have u1 : Blk (w2.alloc (.cells if0 74)) w2.heap.size 74 if0 := Blk.new _ _ _
  have u2 := u1.set (fiC n sz st)
  have c3 : ((w2.alloc (.cells if0 74)).setRow w2.heap.size (fiC n sz st)).cell? ⟨w2.heap.size, 3, none⟩ = some (.int .i64 (sz : Int)) := (u2.cell 3).trans rfl
  have HE : Hid (Below w.heap.size w ((w2.alloc (.cells if0 74)).setRow w2.heap.size (fiC n sz st))) := below_setRow (hb2.alloc hb2.size _) hb2.size _
  have HS2 : Hid (w.heap.size ≤ w2.heap.size) := hb2.size
  clear hb2 H1
  have H3 := HW.out ((w2.alloc (.cells if0 74)).setRow w2.heap.size (fiC n sz st))
  go_wp2_with (first
    | (refine wpList_store_row (by rfl) 74 _ _ (by rfl) (w2.heap.size) (fiC n sz st) (by rfl) (by rfl) 74 if0 (by exact u1) (sizeInfo.trans (by rfl)) (by rfl) (fi_all _ _ _) ?_; simp only [Act.put, List.setIfInBounds_toArray, List.set_cons_zero, List.set_cons_succ])
    | (refine wpList_load_row (by rfl) 74 _ (by rfl) (w2.heap.size) (by rfl) 74 (fiC n sz st) (0, 0) _ (by exact u2) Tryz.underlying74 (by rfl) (sizeInfo.trans (by rfl)) ?_; simp only [Act.put, List.setIfInBounds_toArray, List.set_cons_zero, List.set_cons_succ])
    | fail)
  refine H3.mono ?_
  rintro e w4 ⟨rfl, hb4⟩
  have hb5 : Below w.heap.size w w4 := HE.out.trans (hb4.mono HE.out.size)
  have c4 : w4.cell? ⟨w2.heap.size, 3, none⟩ = some (.int .i64 (sz : Int)) := fi_c3 (u2.below hb4 u2.lt)
  clear H3 c3 u1 u2 HE hb4
  go_wp2_with fail
  go_ret2
  exact ⟨rfl, hb5⟩
set_option maxRecDepth 100000 in
set_option maxHeartbeats 4000000 in
theorem IM.writeOk (h : IM w x mf ml mc cp top H D) (hf : Fi H D n sz st F) (a s' : Nat) (s : ByteArray) (hs : 0 < s.size) (ha : a + s.size ≤ 1048576) : Calls Tryz.prog 9 #[.pointer (some ⟨x, 0, none⟩), .int .i64 (n : Int), .int .i64 (a : Int), .string s, .int .u64 ((s' : Nat) : Int)] w fun e w' => e = .returned (.tuple #[.int .i64 ((a + s.size : Nat) : Int), .int .i64 0]) ∧ Now w' x mf ml mc cp top H D n (max sz (a + s.size)) s' (wrF F sz s a) ∧ Turns (fun z => z = ml ∨ z = mf) w w' := by
  have H1 := h.oneF hf
  have hzi : ∀ w, (zeroValue 74).run Tryz.prog w = .ok (.agg if0) w := zero_info
  have HW : Hid (∀ V, Below w.heap.size w V → Calls Tryz.prog 27 #[.pointer (some ⟨x, 0, none⟩), .agg (fiC n sz st), .int .i64 (a : Int), .string s, .int .u64 ((s' : Nat) : Int)] V fun e w' => e = .returned (.int .i64 0) ∧ Now w' x mf ml mc cp top H D n (max sz (a + s.size)) s' (wrF F sz s a) ∧ Turns (fun z => z = ml ∨ z = mf) V w') := fun V hV => (h.below hV).write hf s a s' hs ha
  have a0 : ¬ ((a : Int) < 0) := by omega
  obtain ⟨S, hS⟩ : ∃ S : Nat, s.size = S := ⟨_, rfl⟩
  obtain ⟨en, hen⟩ : ∃ en : Nat, a + S = en := ⟨_, rfl⟩
  rw [hS, hen] at HW
  rw [hS, hen]
  have e1 : (a : Int) + (S : Int) = (en : Int) := by omega
  have b1 : en ≤ 1048576 := by omega
  clear hf hs ha hen
  go_enter Tryz.func9, Tryz.ntmps9
  go_wp2_with fail
  refine H1.mono ?_
  rintro e w2 ⟨rfl, hb2⟩
  have u1 : Blk (w2.alloc (.cells if0 74)) w2.heap.size 74 if0 := Blk.new _ _ _
  have u2 := u1.set (fiC n sz st)
  have c3 : ((w2.alloc (.cells if0 74)).setRow w2.heap.size (fiC n sz st)).cell? ⟨w2.heap.size, 3, none⟩ = some (.int .i64 (sz : Int)) := (u2.cell 3).trans rfl
  have HE : Hid (Below w.heap.size w ((w2.alloc (.cells if0 74)).setRow w2.heap.size (fiC n sz st))) := below_setRow (hb2.alloc hb2.size _) hb2.size _
  have HS2 : Hid (w.heap.size ≤ w2.heap.size) := hb2.size
  clear hb2 H1
  have H3 := HW.out _ HE.out
  go_wp2_with (first
    | (refine wpList_store_row (by rfl) 74 _ _ (by rfl) (w2.heap.size) (fiC n sz st) (by rfl) (by rfl) 74 if0 (by exact u1) (sizeInfo.trans (by rfl)) (by rfl) (fi_all _ _ _) ?_; simp only [Act.put, List.setIfInBounds_toArray, List.set_cons_zero, List.set_cons_succ])
    | (refine wpList_load_row (by rfl) 74 _ (by rfl) (w2.heap.size) (by rfl) 74 (fiC n sz st) (0, 0) _ (by exact u2) Tryz.underlying74 (by rfl) (sizeInfo.trans (by rfl)) ?_; simp only [Act.put, List.setIfInBounds_toArray, List.set_cons_zero, List.set_cons_succ])
    | fail)
  refine H3.mono ?_
  rintro e w4 ⟨rfl, hN, hT⟩
  have hlx := h.lts
  have c4 : w4.cell? ⟨w2.heap.size, 3, none⟩ = some (.int .i64 (sz : Int)) := fi_c3 ((hT.block _ u2.lt (by have := HS2.out; omega)).trans u2)
  have HE5 : Hid (_ ∧ _) := ⟨hN, (Turns.bel HE.out).tr hT⟩
  clear H3 c3 u1 u2 HE hN hT
  go_wp2_with fail
  go_ret2
  exact ⟨rfl, HE5.out⟩
end
end Go.Proofs.YtelgceaembmenaaGreat

namespace Go.Proofs.YtelgceaembmenaaGreat
open Go Go.RowKit
set_option linter.unusedSimpArgs false
set_option linter.unusedVariables false

/-- a block's digest -/
def dgB (f : Nat → Nat) : Vector Nat 32 := sumD (sumOf (1, strN f 256))
set_option maxRecDepth 100000 in
set_option maxHeartbeats 4000000 in
theorem mayBeRoom_ok (x : Int) (h0 : 0 ≤ x) (h1 : x ≤ 4096) (w : World) : Calls Tryz.prog 41 #[.int .i64 x] w fun e w' => e = .returned (.bool true) ∧ w = w' := by
  go_enter Tryz.func41, Tryz.ntmps41
  go_wp2_with fail
  go_ret
  exact ⟨rfl, rfl⟩
/-- no entries: the cells of their holder -/
def esC (m : Nat) : Array Value := #[.map (some m), .pointer none, .pointer none]
theorem sizeEs : (Tryz.prog.info? 121).map (·.size) = some 3 := by kernel_rfl
set_option maxRecDepth 100000 in
set_option maxHeartbeats 4000000 in
theorem caNone_any (w : World) : Calls Tryz.prog 42 #[] w fun e w' => ∃ m, e = .returned (.agg (esC m)) ∧ w.heap.size ≤ m ∧ MapIs rfV ptV w' m [] ∧ Below w.heap.size w w' := by
  have hmm := @run_makeMap Tryz.prog
  go_enter Tryz.func42, Tryz.ntmps42
  go_wp2_with fail
  try simp only [Exit.inBlock, Exit.then]
  refine bodyPost_ret (results_cell_row Tryz.results42 _ _ w.heap.size 121 (esC (w.heap.size + 1)) (0, 0) _ rfl ((Blk.new _ _ _).alloc _) Tryz.underlying121 rfl (sizeEs.trans (by rfl))) rfl ?_
  refine ⟨_, rfl, Nat.le_succ _, ⟨#[], 0, ?_, rfl⟩, below_new2 _ _ _⟩
  have := heap_alloc_new (w.alloc (Obj.cells (esC (w.heap.size + 1)) 121)) (Obj.map #[] 0)
  rw [show (w.alloc (Obj.cells (esC (w.heap.size + 1)) 121)).heap.size = w.heap.size + 1 by simp] at this
  exact this
set_option maxRecDepth 100000 in
set_option maxHeartbeats 4000000 in
theorem caNew_ok (g : Nat) (lp : Option Addr) (room : Int) (h0 : 0 ≤ room) (h1 : room ≤ 4096) (w : World) : Calls Tryz.prog 21 #[.pointer (some ⟨g, 0, none⟩), .pointer lp, .int .i64 room] w fun e w' => ∃ c m, e = .returned (.tuple #[.pointer (some ⟨c, 0, none⟩), .int .i64 0]) ∧ (w.heap.size ≤ c ∧ w.heap.size ≤ m) ∧ Blk w' c 126 (caC (some ⟨g, 0, none⟩) lp room m none none 0 0 0 0) ∧ MapIs rfV ptV w' m [] ∧ Below w.heap.size w w' := by
  have hR : Hid (∀ w : World, Calls Tryz.prog 41 #[.int .i64 room] w fun e w' => e = .returned (.bool true) ∧ w = w') := mayBeRoom_ok room h0 h1
  have hN : Hid (∀ w : World, Calls Tryz.prog 42 #[] w fun e w' => ∃ m, e = .returned (.agg #[.map (some m), .pointer none, .pointer none]) ∧ w.heap.size ≤ m ∧ MapIs rfV ptV w' m [] ∧ Below w.heap.size w w') := caNone_any
  clear h0 h1
  go_enter Tryz.func21, Tryz.ntmps21
  go_wp2_with fail
  refine (hR.out _).mono ?_
  rintro e _ ⟨rfl, rfl⟩
  go_wp2_with fail
  refine (hN.out _).mono ?_
  rintro e w1 ⟨m, rfl, hm, hmap, hb1⟩
  have HM : Hid (MapIs rfV ptV w1 m []) := hmap
  clear hmap
  go_wp2_with fail
  try simp only [Exit.inBlock, Exit.then]
  refine bodyPost_ret (results_tmp2 Tryz.results21 _ _ _) rfl ?_
  have hb2 : Below w1.heap.size w1 (w1.alloc (.cells (caC (some ⟨g, 0, none⟩) lp room m none none 0 0 0 0) 126)) := below_new1 _ _
  exact ⟨w1.heap.size, m, rfl, ⟨hb1.size, hm⟩, Blk.new _ _ _, HM.out.below hb2 (by
    obtain ⟨es, cl, hg, _⟩ := HM.out
    exact (Array.getElem?_eq_some_iff.1 hg).1), hb1.trans (hb2.mono hb1.size)⟩
end Go.Proofs.YtelgceaembmenaaGreat

namespace Go.Proofs.YtelgceaembmenaaGreat
open Go Go.RowKit
set_option linter.unusedSimpArgs false
set_option linter.unusedVariables false

theorem MapIs.lt {α β : Type} {K : α → Value} {V : β → Value} {w : World} {r : Nat} {l : List (α × β)} (h : MapIs K V w r l) : r < w.heap.size := by
  obtain ⟨es, cl, hg, _⟩ := h
  exact (Array.getElem?_eq_some_iff.1 hg).1
theorem MapIs.of {α β : Type} {K : α → Value} {V : β → Value} {w w' : World} {r : Nat} {l : List (α × β)} (h : MapIs K V w r l) (hk : w'.heap[r]? = w.heap[r]?) : MapIs K V w' r l := by
  obtain ⟨es, cl, hg, he⟩ := h
  exact ⟨es, cl, hk.trans hg, he⟩
theorem MapIs.ne {α β : Type} {K : α → Value} {V : β → Value} {w : World} {r b t : Nat} {cs : Array Value} {l : List (α × β)} (h : MapIs K V w r l) (hb : Blk w b t cs) : r ≠ b := fun e => by
  obtain ⟨es, cl, hg, _⟩ := h
  subst e
  have := hg.symm.trans hb
  simp at this
theorem map_len {w : World} {m : Nat} {l : List (Rf × Nat)} (h : MapIs rfV ptV w m l) (ty : TypeId) : (Builtin.len_ #[118] ty #[.map (some m)]).run Tryz.prog w = .ok (.int .i64 (l.length : Int)) w := by
  obtain ⟨es, cl, hg, he⟩ := h
  have hgo : (getObj m).run Tryz.prog w = .ok (.map es cl) w := by simp [getObj, Sem.run, hg]
  have hl : es.size = l.length := by
    have := congrArg List.length he
    simpa using this
  simp [Builtin.len_, run_underlying Tryz.underlying118, hgo, goInt, hl]
section
variable {c m : Nat} {dp lp o n : Option Addr} {room h r bd cn : Int}
end
end Go.Proofs.YtelgceaembmenaaGreat

namespace Go.Proofs.YtelgceaembmenaaGreat
open Go Go.RowKit
set_option linter.unusedSimpArgs false
set_option linter.unusedVariables false

/-- a block in which nothing is turned -/
theorem Turns.blk {S : Nat → Prop} {w w' : World} (h : Turns S w w') {b t : Nat} {cs : Array Value} (hb : Blk w b t cs) (hn : ¬ S b) : Blk w' b t cs := (h.block b hb.lt hn).trans hb
section
variable {c m : Nat} {dp lp o n : Option Addr} {room h r bd cn : Int}
end
end Go.Proofs.YtelgceaembmenaaGreat

namespace Go.Proofs.YtelgceaembmenaaGreat
open Go Go.RowKit
set_option linter.unusedSimpArgs false
set_option linter.unusedVariables false

theorem Turns.alloc {S : Nat → Prop} {w w' : World} (h : Turns S w w') (o : Obj) : Turns S w (w'.alloc o) := by
  have k : Below w'.heap.size w' (w'.alloc o) := below_new1 _ _
  exact ⟨k.os.trans h.os, k.tape.trans h.tape, k.output.trans h.output, Nat.le_trans h.size k.size, fun x hx hf => (k.block x (Nat.lt_of_lt_of_le hx h.size)).trans (h.block x hx hf)⟩
section
variable {c m b : Nat} {dp lp o n : Option Addr} {room h r bd cn : Int}
end
end Go.Proofs.YtelgceaembmenaaGreat

namespace Go.Proofs.YtelgceaembmenaaGreat
open Go Go.RowKit
set_option linter.unusedSimpArgs false
set_option linter.unusedVariables false

/-- an entry: its reference, its block in the memory, its bytes -/
structure En where
  k : Rf
  b : Nat
  f : Nat → Nat
def enA (e : En) : Addr := ⟨e.b, 0, none⟩
def prevOf (L : List En) (i : Nat) : Option Addr := if i = 0 then none else (L[i - 1]?).map enA
def nextOf (L : List En) (i : Nat) : Option Addr := (L[i + 1]?).map enA
def headOf (L : List En) : Option Addr := (L[0]?).map enA
def lastOf (L : List En) : Option Addr := prevOf L L.length
section
variable {c b : Nat} {m : Nat} {dp lp o n : Option Addr} {room h r bd cn : Int} {R : Rf} {f : Nat → Nat}
end
end Go.Proofs.YtelgceaembmenaaGreat

namespace Go.Proofs.YtelgceaembmenaaGreat
open Go Go.RowKit
set_option linter.unusedSimpArgs false
set_option linter.unusedVariables false

/-- the chain of entries in the memory -/
structure ChainAt (w : World) (c m : Nat) (dp lp : Option Addr) (room h r bd cn : Int) (L : List En) : Prop where
  blk : Blk w c 126 (caC dp lp room m (headOf L) (lastOf L) h r bd cn)
  ents : ∀ i e, L[i]? = some e → Blk w e.b 221 (enC e.k e.f (prevOf L i) (nextOf L i))
  nd : ∀ (i j : Nat) (e e' : En), L[i]? = some e → L[j]? = some e' → e.b = e'.b → i = j
/-- its blocks -/
def chfoot (c : Nat) (L : List En) (x : Nat) : Prop := x = c ∨ ∃ e ∈ L, x = e.b
section
variable {w w' : World} {c m : Nat} {dp lp : Option Addr} {room h r bd cn : Int} {L : List En} {i : Nat} {e : En}
theorem ChainAt.below (H : ChainAt w c m dp lp room h r bd cn L) (hb : Below w.heap.size w w') : ChainAt w' c m dp lp room h r bd cn L := ⟨H.blk.below hb H.blk.lt, fun i e he => (H.ents i e he).below hb (H.ents i e he).lt, H.nd⟩
theorem ChainAt.kept (H : ChainAt w c m dp lp room h r bd cn L) (hk : ∀ x, chfoot c L x → w'.heap[x]? = w.heap[x]?) : ChainAt w' c m dp lp room h r bd cn L := ⟨(hk c (.inl rfl)).trans H.blk, fun i e he => (hk e.b (.inr ⟨e, List.mem_of_getElem? he, rfl⟩)).trans (H.ents i e he), H.nd⟩
theorem ChainAt.lt (H : ChainAt w c m dp lp room h r bd cn L) (x : Nat) (hx : chfoot c L x) : x < w.heap.size := by
  rcases hx with rfl | ⟨e, he, rfl⟩
  · exact H.blk.lt
  · obtain ⟨i, hi⟩ := List.mem_iff_getElem?.1 he
    exact (H.ents i e hi).lt
end
end Go.Proofs.YtelgceaembmenaaGreat

namespace Go.Proofs.YtelgceaembmenaaGreat
open Go Go.RowKit
set_option linter.unusedSimpArgs false
set_option linter.unusedVariables false

/-- the map of the entries -/
def MapFor (w : World) (m : Nat) (L : List En) : Prop := ∃ es : List (Rf × Nat), MapIs rfV ptV w m es ∧ es.length = L.length ∧ (es.map Prod.fst).Nodup ∧ ∀ k b, findIn k es = some b ↔ ∃ e ∈ L, e.k = k ∧ e.b = b
/-- a cache's entries in the memory -/
structure CaAt (w : World) (c m : Nat) (dp lp : Option Addr) (room h r bd cn : Int) (L : List En) : Prop where
  ch : ChainAt w c m dp lp room h r bd cn L
  mp : MapFor w m L
/-- its blocks -/
def cafo (c m : Nat) (L : List En) (x : Nat) : Prop := chfoot c L x ∨ x = m
section
variable {w w' : World} {c m : Nat} {dp lp : Option Addr} {room h r bd cn : Int} {L : List En} {i : Nat} {e : En} {k : Rf}
theorem MapFor.of (H : MapFor w m L) (hk : w'.heap[m]? = w.heap[m]?) : MapFor w' m L := by
  obtain ⟨es, h1, h2⟩ := H
  exact ⟨es, h1.of hk, h2⟩
theorem MapFor.lt (H : MapFor w m L) : m < w.heap.size := by
  obtain ⟨es, h1, h2⟩ := H
  exact h1.lt
theorem MapFor.ne (H : MapFor w m L) {b t : Nat} {cs : Array Value} (hb : Blk w b t cs) : m ≠ b := by
  obtain ⟨es, h1, h2⟩ := H
  exact h1.ne hb
theorem CaAt.below (H : CaAt w c m dp lp room h r bd cn L) (hb : Below w.heap.size w w') : CaAt w' c m dp lp room h r bd cn L := ⟨H.ch.below hb, H.mp.of (hb.block m H.mp.lt)⟩
theorem CaAt.drew (H : CaAt w c m dp lp room h r bd cn L) : CaAt w.drew c m dp lp room h r bd cn L := H.below (Below.refl _ _).drew
theorem CaAt.kept (H : CaAt w c m dp lp room h r bd cn L) (hk : ∀ x, cafo c m L x → w'.heap[x]? = w.heap[x]?) : CaAt w' c m dp lp room h r bd cn L := ⟨H.ch.kept fun x hx => hk x (.inl hx), H.mp.of (hk m (.inr rfl))⟩
theorem CaAt.lt (H : CaAt w c m dp lp room h r bd cn L) (x : Nat) (hx : cafo c m L x) : x < w.heap.size := by
  rcases hx with hx | rfl
  · exact H.ch.lt x hx
  · exact H.mp.lt
theorem CaAt.setRow (H : CaAt w c m dp lp room h r bd cn L) {b : Nat} (hb : ¬ cafo c m L b) (cs : Array Value) : CaAt (w.setRow b cs) c m dp lp room h r bd cn L := H.kept fun x hx => setRow_other w b x cs fun e => hb (e ▸ hx)
theorem CaAt.one (H : CaAt w c m dp lp room h r bd cn L) {e e' : En} (he : e ∈ L) (he' : e' ∈ L) (hk : e.k = e'.k) : e.b = e'.b := by
  obtain ⟨es, h1, h2, h3, h4⟩ := H.mp
  have h5 := (h4 e.k e.b).2 ⟨e, he, rfl, rfl⟩
  have h6 := (h4 e.k e'.b).2 ⟨e', he', hk.symm, rfl⟩
  rw [h5] at h6
  injection h6
theorem mem_erased {x : En} (hx : x ∈ L.eraseIdx i) : x ∈ L := by
  obtain ⟨j, _, hj⟩ := List.mem_eraseIdx_iff_getElem?.1 hx
  exact List.mem_of_getElem? hj
theorem ChainAt.other (H : ChainAt w c m dp lp room h r bd cn L) (hi : L[i]? = some e) (j : Nat) (e' : En) (hj : (L.eraseIdx i)[j]? = some e') : e'.b ≠ e.b := fun hb => by
  rw [List.getElem?_eraseIdx] at hj
  split at hj
  · have := H.nd _ _ _ _ hj hi hb
    omega
  · have := H.nd _ _ _ _ hj hi hb
    omega
end
end Go.Proofs.YtelgceaembmenaaGreat

namespace Go.Proofs.YtelgceaembmenaaGreat
open Go Go.RowKit
set_option linter.unusedSimpArgs false
set_option linter.unusedVariables false

/-- the entries but the one of a reference, if it is there -/
def PutL (L : List En) (k : Rf) (L1 : List En) : Prop := (∃ i e, L[i]? = some e ∧ e.k = k ∧ L1 = L.eraseIdx i) ∨ ((∀ e ∈ L, e.k ≠ k) ∧ L1 = L)
theorem PutL.sub {L L1 : List En} {k : Rf} (h : PutL L k L1) {x : En} (hx : x ∈ L1) : x ∈ L := by
  rcases h with ⟨i, e, _, _, rfl⟩ | ⟨_, rfl⟩
  · exact mem_erased hx
  · exact hx
theorem PutL.foot {L L1 : List En} {k : Rf} (h : PutL L k L1) {c m x : Nat} (hx : cafo c m L1 x) : cafo c m L x := by
  rcases hx with (hx | ⟨e, he, hx⟩) | hx
  · exact .inl (.inl hx)
  · exact .inl (.inr ⟨e, h.sub he, hx⟩)
  · exact .inr hx
section
variable {w w' : World} {c m : Nat} {dp lp : Option Addr} {room h r bd cn : Int} {L L1 : List En} {i : Nat} {e : En} {k : Rf}
theorem PutL.none (H : CaAt w c m dp lp room h r bd cn L) (hp : PutL L k L1) : ∀ e ∈ L1, e.k ≠ k := by
  rcases hp with ⟨i, e, hi, rfl, rfl⟩ | ⟨hn, rfl⟩
  · intro x hx hk
    obtain ⟨j, hj, hj2⟩ := List.mem_eraseIdx_iff_getElem?.1 hx
    exact hj (H.ch.nd _ _ _ _ hj2 hi (H.one (List.mem_of_getElem? hj2) (List.mem_of_getElem? hi) hk))
  · exact hn
/-- how many keys a map has -/
def mapSz (w : World) (m : Nat) : Nat := match w.heap[m]? with
  | some (.map es _) => es.size
  | _ => 0
theorem MapFor.sz (H : MapFor w m L) : mapSz w m = L.length := by
  obtain ⟨es, ⟨xs, cl, hg, he⟩, hl, _⟩ := H
  unfold mapSz
  rw [hg]
  have := congrArg List.length he
  simp at this
  show xs.size = _
  omega
theorem MapFor.len (H : MapFor w m L) (ty : TypeId) : (Builtin.len_ #[118] ty #[.map (some m)]).run Tryz.prog w = .ok (.int .i64 (L.length : Int)) w := by
  obtain ⟨es, h1, h2, _⟩ := H
  have := map_len h1 ty
  rw [h2] at this
  exact this
end
section
variable {w w' : World} {c m room : Nat} {dp lp : Option Addr} {h r bd cn : Int} {L L1 : List En} {i : Nat} {e : En} {k : Rf}
end
end Go.Proofs.YtelgceaembmenaaGreat

namespace Go.Proofs.YtelgceaembmenaaGreat
open Go Go.RowKit
set_option linter.unusedSimpArgs false
set_option linter.unusedVariables false

section
variable {w w' : World} {c m B g N kk lg room : Nat} {F : Nat → Nat} {q q' : QD} {dp lp : Option Addr} {h r bd cn h2 r2 bd2 cn2 : Int} {L L1 : List En} {i : Nat} {e : En} {k : Rf}
/-- a disk and a cache on it -/
structure CD (w : World) (B g N : Nat) (F : Nat → Nat) (kk lg : Nat) (q : QD) (c m room : Nat) (h r bd cn : Int) (L : List En) : Prop where
  d : DiskQ w B g N F kk lg q
  ca : CaAt w c m (some ⟨g, 0, none⟩) none (room : Int) h r bd cn L
  ap : ∀ x, cafo c m L x → ¬ foot g N q x
  lo : ∀ x, cafo c m L x → B ≤ x
/-- its blocks -/
def cdfo (g N : Nat) (q : QD) (c m : Nat) (L : List En) (x : Nat) : Prop := foot g N q x ∨ cafo c m L x
theorem CD.below (H : CD w B g N F kk lg q c m room h r bd cn L) (hb : Below w.heap.size w w') : CD w' B g N F kk lg q c m room h r bd cn L := ⟨H.d.below hb, H.ca.below hb, H.ap, H.lo⟩
theorem CD.kept (H : CD w B g N F kk lg q c m room h r bd cn L) (hk : ∀ x, cdfo g N q c m L x → w'.heap[x]? = w.heap[x]?) : CD w' B g N F kk lg q c m room h r bd cn L := ⟨H.d.kept fun x hx => hk x (.inl hx), H.ca.kept fun x hx => hk x (.inr hx), H.ap, H.lo⟩
theorem CD.lt (H : CD w B g N F kk lg q c m room h r bd cn L) (x : Nat) (hx : cdfo g N q c m L x) : B ≤ x ∧ x < w.heap.size := by
  rcases hx with hx | hx
  · exact H.d.foots x hx
  · exact ⟨H.lo x hx, H.ca.lt x hx⟩
end
section
variable {c m B g N kk lg room : Nat} {F : Nat → Nat} {q : QD} {dp lp : Option Addr} {h r bd cn : Int} {L L1 : List En} {i : Nat} {e : En} {k : Rf}
end
end Go.Proofs.YtelgceaembmenaaGreat

namespace Go.Proofs.YtelgceaembmenaaGreat
open Go Go.RowKit
set_option linter.unusedSimpArgs false
set_option linter.unusedVariables false

/-- a block of the disk -/
def blkAt (F : Nat → Nat) (a : Nat) : Nat → Nat := fun j => F (a * 256 + j)
/-- is what a reference says there? -/
def gotOk (F : Nat → Nat) (N : Nat) (k : Rf) : Prop := k.1 ≠ 0 ∧ k.1 < N ∧ dgB (blkAt F k.1) = k.2
instance (F : Nat → Nat) (N : Nat) (k : Rf) : Decidable (gotOk F N k) := by unfold gotOk; infer_instance
/-- entries that say what the disk says -/
def ValidL (F : Nat → Nat) (N : Nat) (L : List En) : Prop := ∀ e ∈ L, e.k ≠ rf0 ∧ gotOk F N e.k ∧ e.f = blkAt F e.k.1
/-- a disk and a cache, behind i calls at most; U: their blocks -/
structure TD (W : World) (B g N : Nat) (F : Nat → Nat) (c m room i : Nat) (U : Nat → Prop) : Prop where
  ex : ∃ q kk lg h r bd cn L, CD W B g N F kk lg q c m room h r bd cn L ∧ Quiet q kk ∧ kk ≤ i ∧ lg ≤ i ∧ (0 ≤ h ∧ h ≤ (i : Int)) ∧ (0 ≤ r ∧ r ≤ (i : Int)) ∧ (0 ≤ bd ∧ bd ≤ (i : Int)) ∧ ValidL F N L ∧ ∀ x, U x ↔ cdfo g N q c m L x
  nz : 0 < N
  nN : N ≤ 8192
  rm : room ≤ 4096
  hB : B ≤ W.heap.size
section
variable {W W' : World} {B g N c m room i : Nat} {F : Nat → Nat} {U : Nat → Prop}
theorem TD.below (H : TD W B g N F c m room i U) (hb : Below W.heap.size W W') : TD W' B g N F c m room i U := by
  obtain ⟨q, kk, lg, h, r, bd, cn, L, h1, h2⟩ := H.ex
  exact ⟨⟨q, kk, lg, h, r, bd, cn, L, h1.below hb, h2⟩, H.nz, H.nN, H.rm, Nat.le_trans H.hB hb.size⟩
theorem TD.kept (H : TD W B g N F c m room i U) (hs : W.heap.size ≤ W'.heap.size) (hk : ∀ x, U x → W'.heap[x]? = W.heap[x]?) : TD W' B g N F c m room i U := by
  obtain ⟨q, kk, lg, h, r, bd, cn, L, h1, h2, h3, h4, h5, h6, h7, h8, h9⟩ := H.ex
  exact ⟨⟨q, kk, lg, h, r, bd, cn, L, h1.kept fun x hx => hk x ((h9 x).2 hx), h2, h3, h4, h5, h6, h7, h8, h9⟩, H.nz, H.nN, H.rm, Nat.le_trans H.hB hs⟩
theorem TD.lt (H : TD W B g N F c m room i U) (x : Nat) (hx : U x) : B ≤ x ∧ x < W.heap.size := by
  obtain ⟨q, kk, lg, h, r, bd, cn, L, h1, h2, h3, h4, h5, h6, h7, h8, h9⟩ := H.ex
  exact h1.lt x ((h9 x).1 hx)
theorem TD.mono (H : TD W B g N F c m room i U) {j : Nat} (hj : i ≤ j) : TD W B g N F c m room j U := by
  obtain ⟨q, kk, lg, h, r, bd, cn, L, h1, h2, h3, h4, h5, h6, h7, h8, h9⟩ := H.ex
  exact ⟨⟨q, kk, lg, h, r, bd, cn, L, h1, h2, by omega, by omega, by omega, by omega, by omega, h8, h9⟩, H.nz, H.nN, H.rm, H.hB⟩
/-- what a call does to them -/
def TDStep (W W' : World) (B g N : Nat) (F : Nat → Nat) (c m room i : Nat) (U : Nat → Prop) : Prop := ∃ U', TD W' B g N F c m room i U' ∧ Turns U W W' ∧ ∀ x, U' x → U x ∨ W.heap.size ≤ x
theorem TDStep.trans {W1 W2 W3 : World} {i j : Nat} {U V : Nat → Prop} (ht : Turns U W1 W2) (hv : ∀ x, V x → U x ∨ W1.heap.size ≤ x) (h : TDStep W2 W3 B g N F c m room j V) : TDStep W1 W3 B g N F c m room j U := by
  obtain ⟨V', h1, h2, h3⟩ := h
  refine ⟨V', h1, ht.trans h2 hv, fun x hx => ?_⟩
  rcases h3 x hx with h | h
  · exact hv x h
  · exact .inr (Nat.le_trans ht.size h)
end
end Go.Proofs.YtelgceaembmenaaGreat
