/- The log's keys and elements; what a log holds; contracts of NewLog, Len, Has. -/
import Derived.Test.YtcmihdjbeihjbaaGreatHFlText
import Derived.Handy
import Derived.Test.YtcmihdjbeihjbaaGreatRows
import Derived.Test.YtcmihdjbeihjbaaGreatHOrders
import Derived.WalkKit
import Derived.ProofKit
import Derived.OpenShut
import Derived.WalkSpells
import Derived.Below
import Derived.Laws.BytesArg
import Derived.ArgAppend
import Derived.Deep.RegionHeld
import Derived.Deep.RegionLaw
import Derived.Deep.RegionWith
import Derived.Deep.DrawnRows
import Derived.Deep.Heap
import Derived.MapKept
import Derived.Carry

namespace Go.Proofs.YtcmihdjbeihjbaaGreat
open Go Go.RowKit
set_option linter.unusedSimpArgs false
set_option linter.unusedVariables false
/-- is the leaf q read, for bytes from a up tt en in a file of size z -/
def rdL (a en z q : Nat) : Prop := 256 * q < a ∨ min en (256 * q + 256) < min z (256 * q + 256)
instance (a en z q : Nat) : Decidable (rdL a en z q) := by unfold rdL; infer_instance
/-- bytes laid over leaves: the byte at the place p -/
def ovF (L : Nat → Nat → Nat) (s : ByteArray) (a z : Nat) (p : Nat) : Nat := if a ≤ p ∧ p < a + s.size then tbyte s (p - a) else if rdL a (a + s.size) z (p / 256) then L (p / 256) (p % 256) else 0
/-- below the size all is told -/
theorem ovF_in (L : Nat → Nat → Nat) (s : ByteArray) (a z p : Nat) (h : 256 * (a / 256) ≤ p) (hz : p < z) : ovF L s a z p = if a ≤ p ∧ p < a + s.size then tbyte s (p - a) else L (p / 256) (p % 256) := by
  unfold ovF
  by_cases c : a ≤ p ∧ p < a + s.size
  · rw [if_pos c, if_pos c]
  · rw [if_neg c, if_neg c, if_pos]
    unfold rdL
    omega
/-- how many leaves -/
def cvN (a n : Nat) : Nat := (a + n + 255) / 256 - a / 256
theorem ov_round (L : Nat → Nat → Nat) (s : ByteArray) (a z q fr tt o u v : Nat) (f0 : Nat → Nat) (h0 : f0 = if rdL a (a + s.size) z q then L q else fun _ => 0) (hlt : 256 * q < a + s.size) (hq : a / 256 ≤ q) (hfr : fr = max a (256 * q)) (hto : tt = min (a + s.size) (256 * q + 256)) (ho : fr - 256 * q = o) (hu : fr - a = u) (hv : tt - a = v) (j : Nat) (hj : j < 256) : putAt f0 o (v - u) (tbyte (s.extract u v)) j = ovF L s a z (256 * q + j) := by
  unfold putAt ovF
  by_cases c : o ≤ j ∧ j < o + (v - u)
  · rw [if_pos c, if_pos (by omega), tbyte_extract s u v (j - o) (by omega) (by omega)]
    congr 1
    omega
  · rw [if_neg c, if_neg (by omega), h0, show (256 * q + j) / 256 = q by omega, show (256 * q + j) % 256 = j by omega]
    split <;> rfl
theorem byL_leaf (G f : Nat → Nat) (k : Nat) (h : ∀ j, j < 256 → G (k * 256 + j) = f j) : byL G ((k + 1) * 256) = byL G (k * 256) ++ (va 256 (iv .u8 f)).toList := by
  rw [show (k + 1) * 256 = k * 256 + 256 by omega, byL_add, va_toList]
  congr 1
  unfold byL
  refine List.map_congr_left fun j hj => ?_
  exact congrArg (fun x : Nat => Value.int .u8 (x : Int)) (h j (List.mem_range.1 hj))
theorem fl_own {w w' : World} {B e size n : Nat} {v : Value} {xs : List Value} (h : w.ownsRow B e size v n xs) (hb : Below w.heap.size w w') : w'.ownsRow B e size v n xs := by
  refine ⟨h.1, ?_⟩
  rcases h.2 with h | ⟨g, cap, cur, h1, h2, h3, h4⟩
  · exact .inl h
  · exact .inr ⟨g, cap, cur, h1, h2, (hb.block g (Array.getElem?_eq_some_iff.1 h3).1).trans h3, h4⟩
section
variable {w w' : World} {x n sz st : Nat} {L : Nat → Nat → Nat}
set_option maxRecDepth 100000 in
set_option maxHeartbeats 16000000 in
theorem laid_any (s : ByteArray) (a z : Nat) (hz : z ≤ 1048576) (hen : a + s.size ≤ 1048576) (HLF : ∀ V, Below w.heap.size w V → ∀ q : Nat, q < 4096 → Calls Tryz.prog 50 #[.pointer (some ⟨x, 0, none⟩), .int .i64 (n : Int), .int .i64 (q : Int)] V fun e w' => e = .returned (.tuple #[.agg (va 256 (iv .u8 (L q))), .int .i64 0]) ∧ Below V.heap.size V w') : Calls Tryz.prog 56 #[.pointer (some ⟨x, 0, none⟩), .agg (fiC n sz st), .int .i64 (a : Int), .string s, .int .i64 (z : Int)] w fun e w' => ∃ v, e = .returned (.tuple #[v, .int .i64 0]) ∧ w'.ownsRow w.heap.size 148 256 v (cvN a s.size) (byL (fun p => ovF L s a z (256 * (a / 256) + p)) (cvN a s.size * 256)) ∧ Below w.heap.size w w' := by
  obtain ⟨i0, hi, hz0, hz1, hz2⟩ := info_parts infoBk
  obtain ⟨S, hS⟩ : ∃ S : Nat, s.size = S := ⟨_, rfl⟩
  obtain ⟨en, hE⟩ : ∃ en : Nat, a + S = en := ⟨_, rfl⟩
  obtain ⟨q0, hq0⟩ : ∃ q0 : Nat, a / 256 = q0 := ⟨_, rfl⟩
  obtain ⟨r0, hr0⟩ : ∃ r0 : Nat, a % 256 = r0 := ⟨_, rfl⟩
  obtain ⟨g0, hg0⟩ : ∃ g0 : Nat, 256 * q0 = g0 := ⟨_, rfl⟩
  obtain ⟨c, hc⟩ : ∃ c : Nat, cvN a s.size = c := ⟨_, rfl⟩
  rw [hc, hq0]
  have hc' : c = (en + 255) / 256 - q0 := by rw [← hc, hS]; unfold cvN; rw [hE, hq0]
  have HC : Hid (c = (en + 255) / 256 - q0 ∧ s.size = S ∧ a + S = en ∧ a / 256 = q0 ∧ en ≤ 1048576 ∧ z ≤ 1048576) := ⟨hc', hS, hE, hq0, by omega, hz⟩
  have e1 : (a : Int) + (S : Int) = (en : Int) := by omega
  have e2 : (a : Int).tmod 256 = (r0 : Int) := by rw [← hr0]; rfl
  have e3 : (a : Int) - (r0 : Int) = (g0 : Int) := by omega
  have a1 : a ≤ 1048576 := by omega
  have a2 : en ≤ 1048576 := by omega
  have a3 : g0 ≤ 1048576 := by omega
  have a4 : r0 ≤ 256 := by omega
  have k0 : Blk (w.alloc (.cells (fiC n sz st) 62)) w.heap.size 62 (fiC n sz st) := Blk.new _ _ _
  have hb0 : Below w.heap.size w (w.alloc (.cells (fiC n sz st) 62)) := below_new1 _ _
  have HK0 : Hid (Blk (w.alloc (.cells (fiC n sz st) 62)) w.heap.size 62 (fiC n sz st) ∧ Below w.heap.size w (w.alloc (.cells (fiC n sz st) 62))) := ⟨k0, hb0⟩
  have HL : Hid (∀ V, Below w.heap.size w V → ∀ q : Nat, q < 4096 → Calls Tryz.prog 50 #[.pointer (some ⟨x, 0, none⟩), .int .i64 (n : Int), .int .i64 (q : Int)] V fun e w' => e = .returned (.tuple #[.agg (va 256 (iv .u8 (L q))), .int .i64 0]) ∧ Below V.heap.size V w') := HLF
  have hzk := zero_bk
  have HG0 : Hid (256 * q0 = g0) := hg0
  clear HLF hc hc' hE hq0 hr0 hg0 hen k0 hb0
  go_enter Tryz.func56, Tryz.ntmps56
  go_wp2_with fail
  go_loopw [12, 14] (fun v t wr => ∃ (k fst cap : Nat) (al : Option Addr), k ≤ c ∧ v = .slice al k cap ∧ 256 * (q0 + k) = fst ∧ t = .int .i64 (fst : Int) ∧ wr.ownsRow (w.heap.size + 1) 148 256 v k (byL (fun p => ovF L s a z (256 * q0 + p)) (k * 256)) ∧ Blk wr w.heap.size 62 (fiC n sz st) ∧ Below w.heap.size w wr) (fun _ t _ => en + 256 - (intOf t).toNat)
  case atStart => exact ⟨0, g0, 0, none, Nat.zero_le _, rfl, by have := HG0.out; omega, rfl, World.ownsRow_nil _ _ _ _, HK0.out.1, HK0.out.2⟩
  case round =>
    obtain ⟨k, fst, cap, al, hk, rfl, hfst, rfl, hown, hkI, hb⟩ := hrel
    have c0 := fi_c0 hkI
    have hv := hown.lt
    have hsz := hb.size
    have hkl := hkI.lt
    have hCC := HC.out
    by_cases hlt : fst < en
    · have hkc : k < c := by omega
      have t1 : (fst : Int) < (en : Int) := by omega
      obtain ⟨q, hq⟩ : ∃ q : Nat, q0 + k = q := ⟨_, rfl⟩
      obtain ⟨fr, hfr⟩ : ∃ fr : Nat, max a fst = fr := ⟨_, rfl⟩
      obtain ⟨ed, hed⟩ : ∃ ed : Nat, fst + 256 = ed := ⟨_, rfl⟩
      obtain ⟨tt, hto⟩ : ∃ tt : Nat, min en ed = tt := ⟨_, rfl⟩
      obtain ⟨mn, hmn⟩ : ∃ mn : Nat, min z ed = mn := ⟨_, rfl⟩
      obtain ⟨o, ho⟩ : ∃ o : Nat, fr - fst = o := ⟨_, rfl⟩
      obtain ⟨u, hu⟩ : ∃ u : Nat, fr - a = u := ⟨_, rfl⟩
      obtain ⟨v, hv'⟩ : ∃ v : Nat, tt - a = v := ⟨_, rfl⟩
      have f1 : max (a : Int) (fst : Int) = (fr : Int) := by omega
      have f2 : (fst : Int) + 256 = (ed : Int) := by omega
      have f3 : min (en : Int) (ed : Int) = (tt : Int) := by omega
      have f4 : min (z : Int) (ed : Int) = (mn : Int) := by omega
      have f5 : (fr : Int) - (fst : Int) = (o : Int) := by omega
      have f6 : (fr : Int) - (a : Int) = (u : Int) := by omega
      have f7 : (tt : Int) - (a : Int) = (v : Int) := by omega
      have f8 : (fst : Int).tdiv 256 = (q : Int) := by rw [← hfst, hq]; show ((256 * q / 256 : Nat) : Int) = _; omega
      have b1 : ed ≤ 1048832 := by omega
      have b2 : o ≤ 256 := by omega
      have b3 : u ≤ 1048576 := by omega
      have b4 : v ≤ 1048576 := by omega
      have b5 : q ≤ 4096 := by omega
      have b6 : fr ≤ 1048576 := by omega
      have b7 : tt ≤ 1048576 := by omega
      have wo : IntKind.i64.wrap (o : Int) = (o : Int) := wrapI64_id _ (by omega) (by omega)
      have wu : IntKind.i64.wrap (u : Int) = (u : Int) := wrapI64_id _ (by omega) (by omega)
      have wv : IntKind.i64.wrap (v : Int) = (v : Int) := wrapI64_id _ (by omega) (by omega)
      have o0 : (0 : Int) ≤ (o : Int) := by omega
      have o1 : (o : Int) ≤ 256 := by omega
      have o2 : ¬ 256 = o := by omega
      have o3 : ¬ o = 256 := by omega
      have u0 : (0 : Int) ≤ (u : Int) := by omega
      have u1 : (u : Int) ≤ (v : Int) := by omega
      have u2 : (v : Int) ≤ (S : Int) := by omega
      have HQ : Hid (q0 + k = q ∧ max a fst = fr ∧ fst + 256 = ed ∧ min en ed = tt ∧ min z ed = mn ∧ fr - fst = o ∧ fr - a = u ∧ tt - a = v ∧ 256 * (q0 + k) = fst ∧ fst < en) := ⟨hq, hfr, hed, hto, hmn, ho, hu, hv', hfst, hlt⟩
      have HOV : Hid (∀ f0 : Nat → Nat, (f0 = if rdL a (a + s.size) z q then L q else fun _ => 0) → ∀ j, j < 256 → putAt f0 o (v - u) (tbyte (s.extract u v)) j = ovF L s a z (256 * q + j)) := fun f0 h0 j hj => by
        have hq' : 256 * q = fst := by rw [← hq]; exact hfst
        refine ov_round L s a z q fr tt o u v f0 h0 (by omega) (by omega) (by omega) (by omega) (by omega) (by omega) (by omega) j hj
      have HES : Hid ((s.extract u v).size = v - u) := extract_size s u v (by omega)
      have HU : Hid (wr.ownsRow (w.heap.size + 1) 148 256 (.slice al k cap) k (byL (fun p => ovF L s a z (256 * q0 + p)) (k * 256)) ∧ Blk wr w.heap.size 62 (fiC n sz st) ∧ Below w.heap.size w wr ∧ k < c) := ⟨hown, hkI, hb, hkc⟩
      have n1 := Blk.new wr 148 (va 256 (iv .u8 fun _ => 0))
      have hbn : Below wr.heap.size wr (wr.alloc (.cells (va 256 (iv .u8 fun _ => 0)) 148)) := below_new1 _ _
      have HLq := HL.out (wr.alloc (.cells (va 256 (iv .u8 fun _ => 0)) 148)) (hb.alloc hsz _) q (by omega)
      have c0n : (wr.alloc (.cells (va 256 (iv .u8 fun _ => 0)) 148)).cell? ⟨w.heap.size, 0, none⟩ = some (.int .i64 (n : Int)) := fi_c0 (hkI.alloc _)
      clear hfr hed hto hmn ho hu hv' hfst hq hown hkI hb hlt hCC hk hkc hv
      by_cases hA : fst < fr
      · have tA : (fst : Int) < (fr : Int) := by omega
        have HR : Hid (rdL a (a + s.size) z q) := .inl (by have := HQ.out; omega)
        clear hA
        go_wp2_with fail
        refine HLq.mono ?_
        rintro e w4 ⟨rfl, hb4⟩
        have n4 : Blk w4 wr.heap.size 148 (va 256 (iv .u8 fun _ => 0)) := n1.below hb4 n1.lt
        have g5 := n4.set (va 256 (iv .u8 (L q)))
        have hb5 : Below wr.heap.size wr (w4.setRow wr.heap.size (va 256 (iv .u8 (L q)))) := below_setRow (hbn.trans (hb4.mono (by simp))) (Nat.le_refl _) _
        go_wp2_with (first
          | (refine wpList_store_row (by rfl) 148 _ _ (by rfl) (wr.heap.size) (va 256 (iv .u8 (L q))) (by rfl) (by rfl) 148 _ n4 (sizeBk.trans (by rw [va_size])) (by simp only [va_size]) (iv_one _ _ _) ?_; simp only [Act.put, List.setIfInBounds_toArray, List.set_cons_zero, List.set_cons_succ])
          | fail)
        obtain ⟨W, hW⟩ : ∃ W, w4.setRow wr.heap.size (va 256 (iv .u8 (L q))) = W := ⟨_, rfl⟩
        rw [hW] at g5 hb5 ⊢
        have HF : Hid (∀ j, j < 256 → putAt (L q) o (v - u) (tbyte (s.extract u v)) j = ovF L s a z (256 * q + j)) := HOV.out (L q) (by rw [if_pos HR.out])
        clear hW n4 hb4 HLq n1 hbn c0n HOV HR
        go_region_law (refine step_copy_text rfl (.tmp 65) (.tmp 73) 142 9 rfl 5 Tryz.underlying142 ksizeU8 wr.heap.size o (256 - o) (256 - o) (s.extract u v) (by simp [Act.eval, Act.put]) (by simp [Act.eval, Act.put]) (va 256 (iv .u8 (L q))) 148 g5 (v - u) (by rw [HES.out]; show _ = min _ _; have := HQ.out; have := HC.out; omega) (by rw [va_size]; have := HQ.out; have := HC.out; omega) ?_)
        rw [splice_put 256 o (v - u) (L q) (tbyte (s.extract u v)) (by have := HQ.out; have := HC.out; omega), va_congr (f := iv .u8 (putAt (L q) o (v - u) (tbyte (s.extract u v)))) (g := iv .u8 fun j => ovF L s a z (256 * q + j)) fun j hj => by unfold iv; rw [HF.out j hj]]
        have g6 := g5.drew.set (va 256 (iv .u8 fun j => ovF L s a z (256 * q + j)))
        have hb6 : Below wr.heap.size wr (W.drew.setRow wr.heap.size (va 256 (iv .u8 fun j => ovF L s a z (256 * q + j)))) := below_setRow hb5.drew (Nat.le_refl _) _
        obtain ⟨f, hf⟩ : ∃ f : Nat → Nat, (fun j => ovF L s a z (256 * q + j)) = f := ⟨_, rfl⟩
        rw [hf] at g6 hb6 ⊢
        generalize W.drew.setRow wr.heap.size (va 256 (iv .u8 f)) = w1 at *
        have HLC : Hid (byL (fun p => ovF L s a z (256 * q0 + p)) ((k + 1) * 256) = byL (fun p => ovF L s a z (256 * q0 + p)) (k * 256) ++ (va 256 (iv .u8 f)).toList) := byL_leaf _ _ _ fun j hj => by
          rw [← hf]
          show ovF L s a z _ = ovF L s a z _
          congr 1
          have := HQ.out
          omega
        have hown1 : w1.ownsRow (w.heap.size + 1) 148 256 (.slice al k cap) k (byL (fun p => ovF L s a z (256 * q0 + p)) (k * 256)) := fl_own HU.out.1 hb6
        have HOWN : Hid ((w1.alloc (.cells (va 256 (iv .u8 f)) 148)).ownsRow (w.heap.size + 1) 148 256 (.slice al k cap) k (byL (fun p => ovF L s a z (256 * q0 + p)) (k * 256))) := hown1.alloc _
        have HNEW : Hid (∀ j u, (va 256 (iv .u8 f)).toList[j]? = some u → (w1.alloc (.cells (va 256 (iv .u8 f)) 148)).cell? ((⟨w1.heap.size, 0, none⟩ : Addr).add j) = some u) := cells_new w1 _ _
        have HMEM : Hid (∀ u ∈ (va 256 (iv .u8 f)).toList, u.oneCell' = true) := kva_mem_one 256 f
        have HLEN : Hid ((va 256 (iv .u8 f)).toList.length = 1 * 256) := by
          show _ = _
          rw [va_toList]
          simp
        have HV2 := hown1.lt
        have hkb : (k + 1) * 256 ≤ 1049088 := by have := HC.out; have := HU.out.2.2.2; omega
        have h1s : w.heap.size + 1 ≤ w1.heap.size := by have := hb6.size; omega
        clear hown1 hf HF g5 hb5 HES
        go_wp2_with (first
          | (refine wpList_load_row (by rfl) 148 _ (by rfl) (wr.heap.size) (by rfl) 148 (va 256 (iv .u8 f)) (0, 0) _ g6 Tryz.underlying148 (by rfl) (sizeBk.trans (by rw [va_size])) ?_; simp only [Act.put, List.setIfInBounds_toArray, List.set_cons_zero, List.set_cons_succ])
          | (refine wpList_build1 (by rfl) 85 148 _ (by rfl) (va 256 (iv .u8 f)) (by rfl) i0 _ 256 Tryz.underlying85 hi hz0 hz1 (va_size _ _) (by decide) (by decide) ?_; simp only [Act.put, List.setIfInBounds_toArray, List.set_cons_zero, List.set_cons_succ])
          | (at_builtin; refine wpList_append_own _ rfl _ _ 85 rfl (w.heap.size + 1) 148 i0 (.agg (va 256 (iv .u8 fun _ => 0))) 256 256 Tryz.underlying85 hi hz0 hz1 hz2 (va_size _ _) (by decide) _ _ _ rfl HOWN.out ⟨w1.heap.size, 0, none⟩ 1 1 (va 256 (iv .u8 f)).toList rfl HLEN.out HNEW.out HMEM.out (by unfold maxLen; omega) (by omega) (by simp; omega) ?_)
          | go_in)
        intro v' w2 hown' hgrow _
        have hb2 : Below (w.heap.size + 1) wr w2 := ((hb6.mono (by omega)).alloc h1s _).grown hgrow (by simp; omega) (fun k hk => (HV2 k hk).1)
        rw [← HLC.out] at hown'
        obtain ⟨g3, cap3, rfl, hg3, hg3'⟩ := kown_form hown' (Nat.succ_pos k)
        have hk2 : Blk w2 w.heap.size 62 (fiC n sz st) := HU.out.2.1.below hb2 (by omega)
        have hb3 : Below w.heap.size w w2 := HU.out.2.2.1.trans (hb2.mono (by omega))
        clear HOWN HNEW HMEM HLEN HV2 hgrow hb6 g6 hb2
        go_wp2_with fail
        go_roundw
        case rel => exact ⟨k + 1, ed, cap3, _, HU.out.2.2.2, rfl, by have := HQ.out; omega, rfl, hown', hk2, hb3⟩
        case measure =>
          have := HQ.out
          simp [intOf]
          omega
      · have tA : ¬ ((fst : Int) < (fr : Int)) := by omega
        by_cases hB : tt < mn
        · have tB : (tt : Int) < (mn : Int) := by omega
          have HR : Hid (rdL a (a + s.size) z q) := .inr (by have := HQ.out; have := HC.out; omega)
          clear hA hB
          go_wp2_with fail
          refine HLq.mono ?_
          rintro e w4 ⟨rfl, hb4⟩
          have n4 : Blk w4 wr.heap.size 148 (va 256 (iv .u8 fun _ => 0)) := n1.below hb4 n1.lt
          have g5 := n4.set (va 256 (iv .u8 (L q)))
          have hb5 : Below wr.heap.size wr (w4.setRow wr.heap.size (va 256 (iv .u8 (L q)))) := below_setRow (hbn.trans (hb4.mono (by simp))) (Nat.le_refl _) _
          go_wp2_with (first
            | (refine wpList_store_row (by rfl) 148 _ _ (by rfl) (wr.heap.size) (va 256 (iv .u8 (L q))) (by rfl) (by rfl) 148 _ n4 (sizeBk.trans (by rw [va_size])) (by simp only [va_size]) (iv_one _ _ _) ?_; simp only [Act.put, List.setIfInBounds_toArray, List.set_cons_zero, List.set_cons_succ])
            | fail)
          obtain ⟨W, hW⟩ : ∃ W, w4.setRow wr.heap.size (va 256 (iv .u8 (L q))) = W := ⟨_, rfl⟩
          rw [hW] at g5 hb5 ⊢
          have HF : Hid (∀ j, j < 256 → putAt (L q) o (v - u) (tbyte (s.extract u v)) j = ovF L s a z (256 * q + j)) := HOV.out (L q) (by rw [if_pos HR.out])
          clear hW n4 hb4 HLq n1 hbn c0n HOV HR
          go_region_law (refine step_copy_text rfl (.tmp 65) (.tmp 73) 142 9 rfl 5 Tryz.underlying142 ksizeU8 wr.heap.size o (256 - o) (256 - o) (s.extract u v) (by simp [Act.eval, Act.put]) (by simp [Act.eval, Act.put]) (va 256 (iv .u8 (L q))) 148 g5 (v - u) (by rw [HES.out]; show _ = min _ _; have := HQ.out; have := HC.out; omega) (by rw [va_size]; have := HQ.out; have := HC.out; omega) ?_)
          rw [splice_put 256 o (v - u) (L q) (tbyte (s.extract u v)) (by have := HQ.out; have := HC.out; omega), va_congr (f := iv .u8 (putAt (L q) o (v - u) (tbyte (s.extract u v)))) (g := iv .u8 fun j => ovF L s a z (256 * q + j)) fun j hj => by unfold iv; rw [HF.out j hj]]
          have g6 := g5.drew.set (va 256 (iv .u8 fun j => ovF L s a z (256 * q + j)))
          have hb6 : Below wr.heap.size wr (W.drew.setRow wr.heap.size (va 256 (iv .u8 fun j => ovF L s a z (256 * q + j)))) := below_setRow hb5.drew (Nat.le_refl _) _
          obtain ⟨f, hf⟩ : ∃ f : Nat → Nat, (fun j => ovF L s a z (256 * q + j)) = f := ⟨_, rfl⟩
          rw [hf] at g6 hb6 ⊢
          generalize W.drew.setRow wr.heap.size (va 256 (iv .u8 f)) = w1 at *
          have HLC : Hid (byL (fun p => ovF L s a z (256 * q0 + p)) ((k + 1) * 256) = byL (fun p => ovF L s a z (256 * q0 + p)) (k * 256) ++ (va 256 (iv .u8 f)).toList) := byL_leaf _ _ _ fun j hj => by
            rw [← hf]
            show ovF L s a z _ = ovF L s a z _
            congr 1
            have := HQ.out
            omega
          have hown1 : w1.ownsRow (w.heap.size + 1) 148 256 (.slice al k cap) k (byL (fun p => ovF L s a z (256 * q0 + p)) (k * 256)) := fl_own HU.out.1 hb6
          have HOWN : Hid ((w1.alloc (.cells (va 256 (iv .u8 f)) 148)).ownsRow (w.heap.size + 1) 148 256 (.slice al k cap) k (byL (fun p => ovF L s a z (256 * q0 + p)) (k * 256))) := hown1.alloc _
          have HNEW : Hid (∀ j u, (va 256 (iv .u8 f)).toList[j]? = some u → (w1.alloc (.cells (va 256 (iv .u8 f)) 148)).cell? ((⟨w1.heap.size, 0, none⟩ : Addr).add j) = some u) := cells_new w1 _ _
          have HMEM : Hid (∀ u ∈ (va 256 (iv .u8 f)).toList, u.oneCell' = true) := kva_mem_one 256 f
          have HLEN : Hid ((va 256 (iv .u8 f)).toList.length = 1 * 256) := by
            show _ = _
            rw [va_toList]
            simp
          have HV2 := hown1.lt
          have hkb : (k + 1) * 256 ≤ 1049088 := by have := HC.out; have := HU.out.2.2.2; omega
          have h1s : w.heap.size + 1 ≤ w1.heap.size := by have := hb6.size; omega
          clear hown1 hf HF g5 hb5 HES
          go_wp2_with (first
            | (refine wpList_load_row (by rfl) 148 _ (by rfl) (wr.heap.size) (by rfl) 148 (va 256 (iv .u8 f)) (0, 0) _ g6 Tryz.underlying148 (by rfl) (sizeBk.trans (by rw [va_size])) ?_; simp only [Act.put, List.setIfInBounds_toArray, List.set_cons_zero, List.set_cons_succ])
            | (refine wpList_build1 (by rfl) 85 148 _ (by rfl) (va 256 (iv .u8 f)) (by rfl) i0 _ 256 Tryz.underlying85 hi hz0 hz1 (va_size _ _) (by decide) (by decide) ?_; simp only [Act.put, List.setIfInBounds_toArray, List.set_cons_zero, List.set_cons_succ])
            | (at_builtin; refine wpList_append_own _ rfl _ _ 85 rfl (w.heap.size + 1) 148 i0 (.agg (va 256 (iv .u8 fun _ => 0))) 256 256 Tryz.underlying85 hi hz0 hz1 hz2 (va_size _ _) (by decide) _ _ _ rfl HOWN.out ⟨w1.heap.size, 0, none⟩ 1 1 (va 256 (iv .u8 f)).toList rfl HLEN.out HNEW.out HMEM.out (by unfold maxLen; omega) (by omega) (by simp; omega) ?_)
            | go_in)
          intro v' w2 hown' hgrow _
          have hb2 : Below (w.heap.size + 1) wr w2 := ((hb6.mono (by omega)).alloc h1s _).grown hgrow (by simp; omega) (fun k hk => (HV2 k hk).1)
          rw [← HLC.out] at hown'
          obtain ⟨g3, cap3, rfl, hg3, hg3'⟩ := kown_form hown' (Nat.succ_pos k)
          have hk2 : Blk w2 w.heap.size 62 (fiC n sz st) := HU.out.2.1.below hb2 (by omega)
          have hb3 : Below w.heap.size w w2 := HU.out.2.2.1.trans (hb2.mono (by omega))
          clear HOWN HNEW HMEM HLEN HV2 hgrow hb6 g6 hb2
          go_wp2_with fail
          go_roundw
          case rel => exact ⟨k + 1, ed, cap3, _, HU.out.2.2.2, rfl, by have := HQ.out; omega, rfl, hown', hk2, hb3⟩
          case measure =>
            have := HQ.out
            simp [intOf]
            omega
        · have tB : ¬ ((tt : Int) < (mn : Int)) := by omega
          have HR : Hid (¬ rdL a (a + s.size) z q) := by show ¬ _; unfold rdL; have := HQ.out; have := HC.out; omega
          clear hA hB
          obtain ⟨W, hW⟩ : ∃ W, wr.alloc (.cells (va 256 (iv .u8 fun _ => 0)) 148) = W := ⟨_, rfl⟩
          have g5 := n1
          have hb5 := hbn
          rw [hW] at g5 hb5
          have HF : Hid (∀ j, j < 256 → putAt (fun _ => 0) o (v - u) (tbyte (s.extract u v)) j = ovF L s a z (256 * q + j)) := HOV.out (fun _ => 0) (by rw [if_neg HR.out])
          go_wp2_with fail
          try rw [hW]
          clear hW HLq n1 hbn c0n HOV HR
          go_region_law (refine step_copy_text rfl (.tmp 65) (.tmp 73) 142 9 rfl 5 Tryz.underlying142 ksizeU8 wr.heap.size o (256 - o) (256 - o) (s.extract u v) (by simp [Act.eval, Act.put]) (by simp [Act.eval, Act.put]) (va 256 (iv .u8 (fun _ => 0))) 148 g5 (v - u) (by rw [HES.out]; show _ = min _ _; have := HQ.out; have := HC.out; omega) (by rw [va_size]; have := HQ.out; have := HC.out; omega) ?_)
          rw [splice_put 256 o (v - u) (fun _ => 0) (tbyte (s.extract u v)) (by have := HQ.out; have := HC.out; omega), va_congr (f := iv .u8 (putAt (fun _ => 0) o (v - u) (tbyte (s.extract u v)))) (g := iv .u8 fun j => ovF L s a z (256 * q + j)) fun j hj => by unfold iv; rw [HF.out j hj]]
          have g6 := g5.drew.set (va 256 (iv .u8 fun j => ovF L s a z (256 * q + j)))
          have hb6 : Below wr.heap.size wr (W.drew.setRow wr.heap.size (va 256 (iv .u8 fun j => ovF L s a z (256 * q + j)))) := below_setRow hb5.drew (Nat.le_refl _) _
          obtain ⟨f, hf⟩ : ∃ f : Nat → Nat, (fun j => ovF L s a z (256 * q + j)) = f := ⟨_, rfl⟩
          rw [hf] at g6 hb6 ⊢
          generalize W.drew.setRow wr.heap.size (va 256 (iv .u8 f)) = w1 at *
          have HLC : Hid (byL (fun p => ovF L s a z (256 * q0 + p)) ((k + 1) * 256) = byL (fun p => ovF L s a z (256 * q0 + p)) (k * 256) ++ (va 256 (iv .u8 f)).toList) := byL_leaf _ _ _ fun j hj => by
            rw [← hf]
            show ovF L s a z _ = ovF L s a z _
            congr 1
            have := HQ.out
            omega
          have hown1 : w1.ownsRow (w.heap.size + 1) 148 256 (.slice al k cap) k (byL (fun p => ovF L s a z (256 * q0 + p)) (k * 256)) := fl_own HU.out.1 hb6
          have HOWN : Hid ((w1.alloc (.cells (va 256 (iv .u8 f)) 148)).ownsRow (w.heap.size + 1) 148 256 (.slice al k cap) k (byL (fun p => ovF L s a z (256 * q0 + p)) (k * 256))) := hown1.alloc _
          have HNEW : Hid (∀ j u, (va 256 (iv .u8 f)).toList[j]? = some u → (w1.alloc (.cells (va 256 (iv .u8 f)) 148)).cell? ((⟨w1.heap.size, 0, none⟩ : Addr).add j) = some u) := cells_new w1 _ _
          have HMEM : Hid (∀ u ∈ (va 256 (iv .u8 f)).toList, u.oneCell' = true) := kva_mem_one 256 f
          have HLEN : Hid ((va 256 (iv .u8 f)).toList.length = 1 * 256) := by
            show _ = _
            rw [va_toList]
            simp
          have HV2 := hown1.lt
          have hkb : (k + 1) * 256 ≤ 1049088 := by have := HC.out; have := HU.out.2.2.2; omega
          have h1s : w.heap.size + 1 ≤ w1.heap.size := by have := hb6.size; omega
          clear hown1 hf HF g5 hb5 HES
          go_wp2_with (first
            | (refine wpList_load_row (by rfl) 148 _ (by rfl) (wr.heap.size) (by rfl) 148 (va 256 (iv .u8 f)) (0, 0) _ g6 Tryz.underlying148 (by rfl) (sizeBk.trans (by rw [va_size])) ?_; simp only [Act.put, List.setIfInBounds_toArray, List.set_cons_zero, List.set_cons_succ])
            | (refine wpList_build1 (by rfl) 85 148 _ (by rfl) (va 256 (iv .u8 f)) (by rfl) i0 _ 256 Tryz.underlying85 hi hz0 hz1 (va_size _ _) (by decide) (by decide) ?_; simp only [Act.put, List.setIfInBounds_toArray, List.set_cons_zero, List.set_cons_succ])
            | (at_builtin; refine wpList_append_own _ rfl _ _ 85 rfl (w.heap.size + 1) 148 i0 (.agg (va 256 (iv .u8 fun _ => 0))) 256 256 Tryz.underlying85 hi hz0 hz1 hz2 (va_size _ _) (by decide) _ _ _ rfl HOWN.out ⟨w1.heap.size, 0, none⟩ 1 1 (va 256 (iv .u8 f)).toList rfl HLEN.out HNEW.out HMEM.out (by unfold maxLen; omega) (by omega) (by simp; omega) ?_)
            | go_in)
          intro v' w2 hown' hgrow _
          have hb2 : Below (w.heap.size + 1) wr w2 := ((hb6.mono (by omega)).alloc h1s _).grown hgrow (by simp; omega) (fun k hk => (HV2 k hk).1)
          rw [← HLC.out] at hown'
          obtain ⟨g3, cap3, rfl, hg3, hg3'⟩ := kown_form hown' (Nat.succ_pos k)
          have hk2 : Blk w2 w.heap.size 62 (fiC n sz st) := HU.out.2.1.below hb2 (by omega)
          have hb3 : Below w.heap.size w w2 := HU.out.2.2.1.trans (hb2.mono (by omega))
          clear HOWN HNEW HMEM HLEN HV2 hgrow hb6 g6 hb2
          go_wp2_with fail
          go_roundw
          case rel => exact ⟨k + 1, ed, cap3, _, HU.out.2.2.2, rfl, by have := HQ.out; omega, rfl, hown', hk2, hb3⟩
          case measure =>
            have := HQ.out
            simp [intOf]
            omega
    · have t1 : ¬ ((fst : Int) < (en : Int)) := by omega
      have hkc : k = c := by omega
      clear hlt hCC
      go_wp2_with fail
      go_ret2
      subst hkc
      refine ⟨_, rfl, ?_, hb⟩
      rcases hown.2 with h | ⟨g, cap, cur, h1, h2, h3⟩
      · exact ⟨hown.1, .inl h⟩
      · exact ⟨hown.1, .inr ⟨g, cap, cur, h1, by omega, h3⟩⟩
end
end Go.Proofs.YtcmihdjbeihjbaaGreat

namespace Go.Proofs.YtcmihdjbeihjbaaGreat
open Go.RowKit

theorem ret_int {k : IntKind} {a b : Int} (h : a = b) : Ending.returned (.int k a) = .returned (.int k b) := by rw [h]

end Go.Proofs.YtcmihdjbeihjbaaGreat

namespace Go.Proofs.YtcmihdjbeihjbaaGreat

theorem or_join (m a p i : Nat) (hp : p = 2 ^ i) (hm : m < p) : m ||| a * p = m + a * p := by
  subst hp
  rw [Nat.or_comm, nat_join i (a * 2 ^ i) m (Nat.mul_mod_left _ _) hm, Nat.add_comm]
theorem or32_at (m a p i : Nat) (hp : p = 2 ^ i) (hm : m < p) (h : m + a * p < 4294967296) :
    bits .or .u32 (m : Int) ((a : Int) * (p : Int)) = ((m + a * p : Nat) : Int) := by
  rw [← Int.natCast_mul, u32_or_nat m (a * p) (by omega) (by omega), or_join m a p i hp hm]
def le4 (a0 a1 a2 a3 : Nat) : Nat := a0 + a1 * 256 + a2 * 65536 + a3 * 16777216
theorem of4_val (a0 a1 a2 a3 : Nat) (h0 : a0 < 256) (h1 : a1 < 256) (h2 : a2 < 256) (h3 : a3 < 256) :
    bits .or .u32 (bits .or .u32 (bits .or .u32 (bits .or .u32 0 (a0 : Int)) ((a1 : Int) * 256)) ((a2 : Int) * 65536)) ((a3 : Int) * 16777216) = (le4 a0 a1 a2 a3 : Int) := by
  have e0 := u32_or_nat 0 a0 (by decide) (by omega)
  rw [Nat.zero_or] at e0
  have e1 := or32_at a0 a1 256 8 (by decide) h0 (by omega)
  have e2 := or32_at (a0 + a1 * 256) a2 65536 16 (by decide) (by omega) (by omega)
  have e3 := or32_at (a0 + a1 * 256 + a2 * 65536) a3 16777216 24 (by decide) (by omega) (by omega)
  rw [show (0 : Int) = ((0 : Nat) : Int) from rfl, e0, show (256 : Int) = ((256 : Nat) : Int) from rfl, e1, show (65536 : Int) = ((65536 : Nat) : Int) from rfl, e2, show (16777216 : Int) = ((16777216 : Nat) : Int) from rfl, e3]; rfl
end Go.Proofs.YtcmihdjbeihjbaaGreat

namespace Go.Proofs.YtcmihdjbeihjbaaGreat

def dig (x i : Nat) : Nat := x / 256 ^ i % 256
theorem dig_lt (x i : Nat) : dig x i < 256 := Nat.mod_lt _ (by decide)
/-- four bytes from a place on, as a number -/
def le4f (f : Nat → Nat) (o : Nat) : Nat := le4 (f o) (f (o + 1)) (f (o + 2)) (f (o + 3))
def St.of (f : Nat → Nat) : St := ⟨f 0, f 1, f 2, f 3, f 4, f 5, f 6, f 7, f 8, f 9, f 10, f 11, f 12, f 13, f 14, f 15⟩
/-- the chain and the piece side by side -/
def sideN (c p : Nat → Nat) : Nat → Nat := fun i => if i < 8 then c i else le4f p (4 * (i - 8))
def mixedN (c p : Nat → Nat) : St := fwd (St.of (sideN c p)) 6
def pressN (c p : Nat → Nat) : Nat → Nat := fun i => c i ^^^ ((mixedN c p).at i ^^^ (mixedN c p).at (i + 8))
def okP (p : Nat → Nat) : Prop := ∀ i, i < 32 → p i < 256
/-- the first chain -/
def firstN (tag i : Nat) : Nat := 2654435769 * (i + 1) % 4294967296 ^^^ tag * 16777216
/-- n pieces of a text taken in turn; the text told by a function of the place -/
def runN (c : Nat → Nat) (t : Nat → Nat) : Nat → Nat → Nat
  | 0 => c
  | n + 1 => pressN (runN c t n) fun j => t (32 * n + j)
/-- a text with its end behind it: s tells its bytes, n its length -/
def padLen (n : Nat) : Nat := 32 * ((n + 8) / 32 + 1)
def padN (s : Nat → Nat) (n : Nat) : Nat → Nat := fun i =>
  if i < n then s i else if i = n then 128 else if i < padLen n - 8 then 0 else dig n (i - (padLen n - 8))
def sumN (c : Nat → Nat) : Nat → Nat := fun i => dig (c (i / 4)) (i % 4)
end Go.Proofs.YtcmihdjbeihjbaaGreat

namespace Go.Proofs.YtcmihdjbeihjbaaGreat
open Go.RowKit

set_option maxHeartbeats 1000000 in
theorem bytes32_any (x : Nat) (w : World) :
    Calls Tryz.prog 123 #[.int .u32 (x : Int)] w fun e w' => e = .returned (.agg #[.int .u8 ((x % 256 : Nat) : Int), .int .u8 ((x / 256 % 256 : Nat) : Int), .int .u8 ((x / 65536 % 256 : Nat) : Int), .int .u8 ((x / 16777216 % 256 : Nat) : Int)]) ∧ Below w.heap.size w w' := by
  go_enter Tryz.func123, Tryz.ntmps123
  go_wp2
  go_rounds 5
  go_returns
  refine ⟨by simp, ?_⟩
  go_grown

set_option maxHeartbeats 1000000 in
theorem of32_any (a0 a1 a2 a3 : Nat) (h0 : a0 < 256) (h1 : a1 < 256) (h2 : a2 < 256) (h3 : a3 < 256) (w : World) :
    Calls Tryz.prog 130 #[.agg #[.int .u8 (a0 : Int), .int .u8 (a1 : Int), .int .u8 (a2 : Int), .int .u8 (a3 : Int)]] w fun e w' => e = .returned (.int .u32 (le4 a0 a1 a2 a3 : Int)) ∧ Below w.heap.size w w' := by
  go_enter Tryz.func130, Tryz.ntmps130
  go_wp2
  go_rounds 5
  go_returns
  refine ⟨ret_int (of4_val a0 a1 a2 a3 h0 h1 h2 h3), ?_⟩
  go_grown

theorem va4 (f : Nat → Value) : va 4 f = #[f 0, f 1, f 2, f 3] := rfl
theorem bytes32_va (x : Nat) (w : World) :
    Calls Tryz.prog 123 #[.int .u32 (x : Int)] w fun e w' => e = .returned (.agg (va 4 (iv .u8 (dig x)))) ∧ Below w.heap.size w w' := by
  refine (bytes32_any x w).mono ?_
  rintro e w' ⟨rfl, hb⟩
  refine ⟨?_, hb⟩
  simp [va4, iv, dig]
end Go.Proofs.YtcmihdjbeihjbaaGreat

namespace Go.Proofs.YtcmihdjbeihjbaaGreat
open Go.RowKit
set_option linter.unusedSimpArgs false
set_option linter.unusedVariables false

/-- a hasher's cells -/
def hashV (c p : Nat → Nat) (m : Nat) : Nat → Value := fun i => if i < 8 then .int .u32 ((c i : Nat) : Int) else if i < 40 then .int .u8 ((p (i - 8) : Nat) : Int) else .int .i64 (m : Int)

end Go.Proofs.YtcmihdjbeihjbaaGreat

namespace Go.Proofs.YtcmihdjbeihjbaaGreat
open Go Go.RowKit

/-- the byte of a text at a place -/
def byteAt (s : ByteArray) (i : Nat) : Nat := (s.data.toList.getD i 0).toNat
section
variable {P : Program}
end
end Go.Proofs.YtcmihdjbeihjbaaGreat

namespace Go.Proofs.YtcmihdjbeihjbaaGreat
open Go.RowKit
set_option linter.unusedSimpArgs false
set_option linter.unusedVariables false

theorem sizeByte : (Tryz.prog.info? 5).map (·.size) = some 1 := by kernel_rfl
end Go.Proofs.YtcmihdjbeihjbaaGreat

namespace Go.Proofs.YtcmihdjbeihjbaaGreat
open Go.RowKit
set_option linter.unusedSimpArgs false
set_option linter.unusedVariables false

/-- no block but g is changed -/
def Keeps (g : Nat) (w w' : World) : Prop := Below g w w' ∧ ∀ k, k ≠ g → k < w.heap.size → w'.heap[k]? = w.heap[k]?
theorem Keeps.refl (g : Nat) (w : World) : Keeps g w w := ⟨Below.refl _ _, fun _ _ _ => rfl⟩
theorem Keeps.trans {g : Nat} {a b c : World} (h : Keeps g a b) (k : Keeps g b c) : Keeps g a c :=
  ⟨h.1.trans k.1, fun i hi hl => (k.2 i hi (Nat.lt_of_lt_of_le hl h.1.size)).trans (h.2 i hi hl)⟩
theorem Keeps.of {g : Nat} {w w' : World} (h : Below w.heap.size w w') (hg : g ≤ w.heap.size) : Keeps g w w' := ⟨h.mono hg, fun k _ hl => h.block k hl⟩
theorem Keeps.drew {g : Nat} {w w' : World} (h : Keeps g w w') : Keeps g w w'.drew := ⟨h.1.drew, h.2⟩
theorem Keeps.setRow {g : Nat} {w w' : World} (h : Keeps g w w') (cs : Array Value) : Keeps g w (w'.setRow g cs) :=
  ⟨below_setRow h.1 (Nat.le_refl _) cs, fun k hk hl => (setRow_other w' g k cs hk).trans (h.2 k hk hl)⟩
theorem Keeps.blk {g k t : Nat} {w w' : World} {cs : Array Value} (h : Keeps g w w') (hb : Blk w k t cs) (hk : k ≠ g) : Blk w' k t cs := (h.2 k hk hb.lt).trans hb
theorem Keeps.setCells {g : Nat} {w : World} : ∀ (vs : List Value) (o : Nat) (w' : World), Keeps g w w' → Keeps g w (w'.setCells g o vs)
  | [], _, _, h => h
  | v :: vs, o, w', h => by
    rw [World.setCells]
    refine Keeps.setCells vs (o + 1) _ ⟨h.1.setCell (p := ⟨g, o, none⟩) (Nat.le_refl _) v, fun k hk hl => ?_⟩
    rw [← h.2 k hk hl]
    exact Deep.blk_setCell_other w' ⟨g, o, none⟩ v k hk
/-- the hasher holds the first m bytes of the text t -/
def Holds (w : World) (g : Nat) (c0 t : Nat → Nat) (m : Nat) : Prop :=
  ∃ p, okP p ∧ (∀ j, j < m % 32 → p j = t (32 * (m / 32) + j)) ∧ Blk w g 273 (va 41 (hashV (runN c0 t (m / 32)) p m))
end Go.Proofs.YtcmihdjbeihjbaaGreat

namespace Go.Proofs.YtcmihdjbeihjbaaGreat
open Go Go.RowKit
set_option linter.unusedVariables false
set_option linter.unusedSimpArgs false

section
variable {α β : Type} [DecidableEq α] {P : Program}
/-- how keys are told: encoded, compared, and that each may be a key -/
structure KeyOf (P : Program) (kt : TypeId) (K : α → Value) : Prop where
  desc : ∃ d, P.underlying kt = some d ∧ (∀ k, d ≠ .int k) ∧ d ≠ .string ∧ d ≠ .bool
  eq : ∀ a b w, (Op.equal kt (K a) (K b)).run P w = .ok (decide (a = b)) w
  chk : ∀ e a w, (Instr.checkKey e 10000 kt (K a)).run P w = .ok () w
/-- the map in block r holds these keys and elements, in this order -/
def MapIs (K : α → Value) (V : β → Value) (w : World) (r : Nat) (l : List (α × β)) : Prop :=
  ∃ es clock, w.heap[r]? = some (.map es clock) ∧ es.toList.map (fun e => (e.key, e.val)) = l.map fun p => (K p.1, V p.2)
def findIn (a : α) : List (α × β) → Option β
  | [] => none
  | p :: l => if a = p.1 then some p.2 else findIn a l
theorem findNow_none {d : TypeDesc} (h1 : ∀ k, d ≠ .int k) (h2 : d ≠ .string) (h3 : d ≠ .bool) (k : Value) (e : MapEntry) (es : List MapEntry) (i : Nat) : Instr.findNow d k (e :: es) i = none := by
  have : Instr.sameNow d k e.key = none := by
    unfold Instr.sameNow
    split
    · exact absurd rfl (h1 _)
    · exact absurd rfl h2
    · exact absurd rfl h3
    · rfl
  simp [Instr.findNow, this]
theorem run_findAsking {kt : TypeId} {K : α → Value} {V : β → Value} (hk : KeyOf P kt K) (a : α) (w : World) : ∀ (l : List (α × β)) (es : List MapEntry) (i : Nat), es.map (fun e => (e.key, e.val)) = l.map (fun p => (K p.1, V p.2)) →
    ∃ r, (Instr.findAsking kt (K a) es i).run P w = .ok r w ∧ (∀ b, findIn a l = some b → ∃ j, r = some (j, V b)) ∧ (findIn a l = none → r = none)
  | [], es, i, h => by
    have : es = [] := by cases es with
      | nil => rfl
      | cons e es => simp at h
    subst this
    exact ⟨none, by simp [Instr.findAsking], (fun b hb => by cases hb), fun _ => rfl⟩
  | p :: l, [], i, h => by simp at h
  | p :: l, e :: es, i, h => by
    simp only [List.map_cons, List.cons.injEq, Prod.mk.injEq] at h
    obtain ⟨⟨h1, h2⟩, h3⟩ := h
    have he := hk.eq a p.1 w
    rw [← h1] at he
    by_cases hq : a = p.1
    · refine ⟨some (i, e.val), ?_, fun b hb => ?_, fun hn => ?_⟩
      · simp only [Instr.findAsking, Sem.run_bind, he, Result.andThen_ok, decide_eq_true hq, if_true, Sem.run_pure]
      · unfold findIn at hb
        rw [if_pos hq] at hb
        cases hb
        exact ⟨i, by rw [h2]⟩
      · unfold findIn at hn
        rw [if_pos hq] at hn
        cases hn
    · obtain ⟨r, h4, h5, h6⟩ := run_findAsking hk a w l es (i + 1) h3
      refine ⟨r, ?_, fun b hb => ?_, fun hn => ?_⟩
      · simp only [Instr.findAsking, Sem.run_bind, he, Result.andThen_ok, decide_eq_false hq, Bool.false_eq_true, if_false, h4]
      · unfold findIn at hb
        rw [if_neg hq] at hb
        exact h5 b hb
      · unfold findIn at hn
        rw [if_neg hq] at hn
        exact h6 hn
theorem run_findKey {kt : TypeId} {K : α → Value} {V : β → Value} (hk : KeyOf P kt K) (a : α) (w : World) (l : List (α × β)) (es : List MapEntry) (h : es.map (fun e => (e.key, e.val)) = l.map (fun p => (K p.1, V p.2))) :
    ∃ r, (Instr.findKey kt (K a) es).run P w = .ok r w ∧ (∀ b, findIn a l = some b → ∃ j, r = some (j, V b)) ∧ (findIn a l = none → r = none) := by
  obtain ⟨d, hd, n1, n2, n3⟩ := hk.desc
  cases es with
  | nil =>
    have : l = [] := by cases l with
      | nil => rfl
      | cons p l => simp at h
    subst this
    exact ⟨none, by simp [Instr.findKey, run_underlying hd, Instr.findNow], (fun b hb => by cases hb), fun _ => rfl⟩
  | cons e es =>
    obtain ⟨r, h4, h5, h6⟩ := run_findAsking hk a w l (e :: es) 0 h
    exact ⟨r, by simp [Instr.findKey, run_underlying hd, findNow_none n1 n2 n3, h4], h5, h6⟩
/-- a look-up -/
theorem run_lookup_is {mt kt et : TypeId} {K : α → Value} {V : β → Value} {z : Value} (hm : P.underlying mt = some (.map kt et)) (hk : KeyOf P kt K) (hz : ∀ w, (zeroValue et).run P w = .ok z w) {w : World} {r : Nat} {l : List (α × β)} (h : MapIs K V w r l) (a : α) (ok : Bool) :
    (Instr.lookup mt (.map (some r)) (K a) ok).run P w = .ok (if ok then .tuple #[((findIn a l).map V).getD z, .bool (findIn a l).isSome] else ((findIn a l).map V).getD z) w := by
  obtain ⟨es, clock, hg, he⟩ := h
  obtain ⟨x, h4, h5, h6⟩ := run_findKey hk a w l es.toList he
  have hc := hk.chk es.isEmpty a w
  have hgo : (getObj r).run P w = .ok (.map es clock) w := by simp [getObj, Sem.run, hg]
  cases hf : findIn a l with
  | none =>
    obtain rfl := h6 hf
    cases ok <;> simp [Instr.lookup, run_underlying hm, hgo, hc, h4, hz]
  | some b =>
    obtain ⟨j, rfl⟩ := h5 b hf
    cases ok <;> simp [Instr.lookup, run_underlying hm, hgo, hc, h4]
/-- a new key stored -/
theorem run_update_is {mt kt et : TypeId} {K : α → Value} {V : β → Value} (hm : P.underlying mt = some (.map kt et)) (hk : KeyOf P kt K) {w : World} {r : Nat} {l : List (α × β)} (h : MapIs K V w r l) (a : α) (b : β) (hn : findIn a l = none) :
    ∃ w', (Instr.mapUpdate mt (.map (some r)) (K a) (V b)).run P w = .ok () w' ∧ MapIs K V w' r (l ++ [(a, b)]) ∧ Keeps r w w' := by
  obtain ⟨es, clock, hg, he⟩ := h
  obtain ⟨x, h4, h5, h6⟩ := run_findKey hk a w l es.toList he
  obtain rfl := h6 hn
  have hc := hk.chk false a w
  have hgo : (getObj r).run P w = .ok (.map es clock) w := by simp [getObj, Sem.run, hg]
  have hso : ∀ o, (setObj r o).run P w = .ok () { w with heap := w.heap.setIfInBounds r o } := fun o => by simp [setObj, Sem.run, hg]
  have hr : r < w.heap.size := (Array.getElem?_eq_some_iff.1 hg).1
  refine ⟨{ w with heap := w.heap.setIfInBounds r (.map (es.push { key := K a, val := V b, born := clock }) (clock + 1)) }, ?_, ⟨es.push { key := K a, val := V b, born := clock }, clock + 1, ?_, ?_⟩, ⟨⟨rfl, rfl, rfl, by simp, fun k hk => ?_⟩, fun k hk _ => ?_⟩⟩
  · simp [Instr.mapUpdate, run_underlying hm, hgo, hc, h4, hso]
  · simp [hr]
  · simp [he]
  · simp [Array.getElem?_setIfInBounds, show r ≠ k by omega]
  · simp [Array.getElem?_setIfInBounds, Ne.symm hk]
theorem findIn_append (a : α) (l m : List (α × β)) : findIn a (l ++ m) = (findIn a l).or (findIn a m) := by
  induction l with
  | nil => rfl
  | cons p l ih =>
    simp only [List.cons_append, findIn]
    by_cases h : a = p.1
    · simp [h]
    · simp [h, ih]
end
theorem MapIs.keep {α β : Type} {K : α → Value} {V : β → Value} {w w' : World} {r g : Nat} {l : List (α × β)} (h : MapIs K V w r l) (hk : Keeps g w w') (hne : r ≠ g) : MapIs K V w' r l := by
  obtain ⟨es, clock, hg, he⟩ := h
  exact ⟨es, clock, (hk.2 r hne (Array.getElem?_eq_some_iff.1 hg).1).trans hg, he⟩
theorem MapIs.below {α β : Type} {K : α → Value} {V : β → Value} {w w' : World} {r B : Nat} {l : List (α × β)} (h : MapIs K V w r l) (hb : Below B w w') (hB : r < B) : MapIs K V w' r l := by
  obtain ⟨es, clock, hg, he⟩ := h
  exact ⟨es, clock, (hb.block r hB).trans hg, he⟩
end Go.Proofs.YtcmihdjbeihjbaaGreat

namespace Go.Proofs.YtcmihdjbeihjbaaGreat
open Go.RowKit
set_option linter.unusedSimpArgs false
set_option linter.unusedVariables false

/-- the digest of the text t, m bytes of it, out of a first chain -/
def ofC (c0 t : Nat → Nat) (m : Nat) : Nat → Nat := sumN (runN c0 (padN t m) ((m + 8) / 32 + 1))
theorem Holds.lt {w : World} {g m : Nat} {c0 t : Nat → Nat} (h : Holds w g c0 t m) : g < w.heap.size := by
  obtain ⟨p, _, _, hB⟩ := h
  exact hB.lt

end Go.Proofs.YtcmihdjbeihjbaaGreat

namespace Go.Proofs.YtcmihdjbeihjbaaGreat
open Go.RowKit
set_option linter.unusedSimpArgs false
set_option linter.unusedVariables false

/-- an entry as a value -/
def entV (e : Nat × ByteArray) : Value := .agg #[.int .u8 ((e.1 : Nat) : Int), .string e.2]
def sumV (y : Nat → Nat) : Value := .agg (va 32 (iv .u8 y))
/-- an entry's digest -/
def sumOf (e : Nat × ByteArray) : Nat → Nat := ofC (firstN e.1) (byteAt e.2) e.2.size

theorem beqB (a b : ByteArray) : (a == b) = decide (a = b) := by
  obtain ⟨x⟩ := a
  obtain ⟨y⟩ := b
  have e : ((⟨x⟩ : ByteArray) == ⟨y⟩) = (x == y) := rfl
  rw [e]
  by_cases h : x = y
  · subst h
    simp
  · have h2 : ¬ ((⟨x⟩ : ByteArray) = ⟨y⟩) := fun q => h (by injection q)
    rw [decide_eq_false h2]
    simpa using h
theorem eq_entry (d : Nat) (a b : Nat × ByteArray) (w : World) : (Op.equalIn (d + 1 + 1) 259 (entV a) (entV b)).run Tryz.prog w = .ok (decide (a = b)) w := by
  unfold entV
  have h1 : ∀ x y : Int, (Op.equalIn (d + 1) 5 (.int .u8 x) (.int .u8 y)).run Tryz.prog w = .ok (x == y) w := fun x y => by simp [Op.equalIn, run_underlying Tryz.underlying5]
  have h2 : ∀ x y : ByteArray, (Op.equalIn (d + 1) 9 (.string x) (.string y)).run Tryz.prog w = .ok (x == y) w := fun x y => by simp [Op.equalIn, run_underlying Tryz.underlying9]
  have p1 : ∀ (x : Int) (y : ByteArray), (part 5 #[.int .u8 x, .string y] 0).run Tryz.prog w = .ok (.int .u8 x) w := fun x y => by simp [part, isAgg, run_underlying Tryz.underlying5]
  have p2 : ∀ (x : Int) (y : ByteArray), (part 9 #[.int .u8 x, .string y] 1).run Tryz.prog w = .ok (.string y) w := fun x y => by simp [part, isAgg, run_underlying Tryz.underlying9]
  rw [Op.equalIn]
  simp only [Sem.run_bind, run_underlying Tryz.underlying259, Result.andThen_ok]
  simp [Op.eqFields, p1, p2, h1, h2]
  obtain ⟨a1, a2⟩ := a
  obtain ⟨b1, b2⟩ := b
  by_cases ha : a1 = b1
  · subst ha
    by_cases hb : a2 = b2
    · subst hb
      simp [beqB]
    · simp [beqB, hb]
  · have hc : ¬ ((a1 : Int) = (b1 : Int)) := by omega
    simp [ha, hc]
theorem chk_entry (d : Nat) (e : Bool) (a : Nat × ByteArray) (w : World) : (Instr.checkKey e (d + 1 + 1) 259 (entV a)).run Tryz.prog w = .ok () w := by
  unfold entV
  have h1 : ∀ x : Int, (Instr.checkKey e (d + 1) 5 (.int .u8 x)).run Tryz.prog w = .ok () w := fun x => by simp [Instr.checkKey, run_underlying Tryz.underlying5]
  have h2 : ∀ x : ByteArray, (Instr.checkKey e (d + 1) 9 (.string x)).run Tryz.prog w = .ok () w := fun x => by simp [Instr.checkKey, run_underlying Tryz.underlying9]
  have p1 : ∀ (x : Int) (y : ByteArray), (part 5 #[.int .u8 x, .string y] 0).run Tryz.prog w = .ok (.int .u8 x) w := fun x y => by simp [part, isAgg, run_underlying Tryz.underlying5]
  have p2 : ∀ (x : Int) (y : ByteArray), (part 9 #[.int .u8 x, .string y] 1).run Tryz.prog w = .ok (.string y) w := fun x y => by simp [part, isAgg, run_underlying Tryz.underlying9]
  rw [Instr.checkKey]
  simp only [Sem.run_bind, run_underlying Tryz.underlying259, Result.andThen_ok]
  simp [p1, p2, h1, h2]
theorem entry_key : KeyOf Tryz.prog 259 entV where
  desc := ⟨_, Tryz.underlying259, (fun k h => by cases h), (fun h => by cases h), (fun h => by cases h)⟩
  eq a b w := eq_entry 9998 a b w
  chk e a w := chk_entry 9998 e a w
theorem zero_sum (w : World) : (zeroValue 52).run Tryz.prog w = .ok (sumV fun _ => 0) w := by
  obtain ⟨i, hi⟩ : ∃ i, Tryz.prog.info? 52 = some i := Option.isSome_iff_exists.1 (by kernel_rfl)
  have hz : i.zero = some (sumV fun _ => 0) := by
    have : (Tryz.prog.info? 52).bind (·.zero) = some (sumV fun _ => 0) := by kernel_rfl
    rw [hi] at this
    exact this
  simp [zeroValue, typeInfo, hi, hz]
end Go.Proofs.YtcmihdjbeihjbaaGreat
