/- The statements' own test that a cache is awake; the statement CacheNil, called with whatever reference, block and room: it returns true. -/
import Derived.Test.YtdniigefmlmcdabHCaSweep
import Derived.OwnWalk
import Derived.Handy
import Derived.Test.YtdniigefmlmcdabHCaAwake

namespace Go.Proofs.Ytdniigefmlmcdab
open Go Go.RowKit
set_option linter.unusedSimpArgs false
set_option linter.unusedVariables false

set_option maxRecDepth 100000 in
set_option maxHeartbeats 8000000 in
theorem getAll_walk (cp : Value) (a0 : Option Addr) (n c0 : Nat) (hn : n ≤ 4096) (R : Nat → Rf) (bl : Nat → Nat → Nat) (er : Nat → Int) (I : Nat → World → Prop) (w : World) (hI0 : I 0 w)
    (hIb : ∀ i W W', I i W → Below w.heap.size W W' → I i W')
    (hIr : ∀ i W, i < n → I i W → ∃ b o, a0 = some ⟨b, o, none⟩ ∧ W.rangeAt b (o + i * 33) ((List.range 33).map (rfF (R i).1 (R i).2)))
    (hG : ∀ i, i < n → ∀ W, I i W → w.heap.size ≤ W.heap.size → Calls Try.prog 23 #[cp, .agg (rfC (R i))] W fun e W' => e = .returned (.tuple #[.agg (va 256 (iv .u8 (bl i))), .int .i64 (er i)]) ∧ I (i + 1) W' ∧ Turns (fun x => x < w.heap.size) W W')
    (j : Nat) (hj : j ≤ n) (hok : ∀ i, i < j → er i = 0) (hstop : j < n → er j = 4) :
    Calls Try.prog 12 #[cp, .slice a0 n c0] w fun e w' => ((j < n ∧ e = .returned (.tuple #[.slice none 0 0, .int .i64 (j : Int), .int .i64 4]) ∧ I (j + 1) w') ∨ (j = n ∧ ∃ a cap, e = .returned (.tuple #[.slice a n cap, .int .i64 0, .int .i64 0]) ∧ I n w')) ∧ Turns (fun x => x < w.heap.size) w w' := by
  obtain ⟨i0, hi, hz0, hz1, hz2⟩ := info_parts infoBk
  have hzr := zero_ref
  have hz := zero_bk
  have HIB : Hid (∀ i W W', I i W → Below w.heap.size W W' → I i W') := hIb
  have HIR : Hid (∀ i W, i < n → I i W → ∃ b o, a0 = some ⟨b, o, none⟩ ∧ W.rangeAt b (o + i * 33) ((List.range 33).map (rfF (R i).1 (R i).2))) := hIr
  have HG : Hid (∀ i, i < n → ∀ W, I i W → w.heap.size ≤ W.heap.size → Calls Try.prog 23 #[cp, .agg (rfC (R i))] W fun e W' => e = .returned (.tuple #[.agg (va 256 (iv .u8 (bl i))), .int .i64 (er i)]) ∧ I (i + 1) W' ∧ Turns (fun x => x < w.heap.size) W W') := hG
  have HOK : Hid (∀ i, i < j → er i = 0) := hok
  have HST : Hid (j < n → er j = 4) := hstop
  clear hIb hIr hG hok hstop
  go_enter Try.func12, Try.ntmps12
  go_wp2_with fail
  go_loopw [7, 14] (fun v t wr => ∃ (i cap : Nat) (a : Option Addr) (xs : List Value), i ≤ j ∧ t = .int .i64 (i : Int) ∧ v = .slice a i cap ∧ I i wr ∧ wr.ownsRow w.heap.size 23 256 v i xs ∧ w.heap.size ≤ wr.heap.size ∧ Turns (fun x => x < w.heap.size) w wr) (fun _ t _ => n - (intOf t).toNat)
  case atStart => exact ⟨0, 0, none, [], Nat.zero_le _, rfl, rfl, hI0, World.ownsRow_nil _ _ _ _, Nat.le_refl _, .of_below (Below.refl _ _)⟩
  case round =>
    obtain ⟨i, cap, a, xs, hij, rfl, rfl, hI, hown, hsz, hT⟩ := hrel
    by_cases hin : i < n
    · by_cases hlt : i < j
      · have hE : er i = 0 := HOK.out i hlt
        obtain ⟨b0, o0, ha, hrg⟩ := HIR.out i wr hin hI
        subst ha
        have HRG : Hid (wr.rangeAt b0 (o0 + i * 33) ((List.range 33).map (rfF (R i).1 (R i).2))) := hrg
        have i0' : (0 : Int) ≤ (i : Int) := by omega
        have i1' : (i : Int) < (n : Int) := by omega
        have x0 := Blk.new wr 35 (rfC rf0)
        have x1 := x0.set (rfC (R i))
        have hb1 : Below wr.heap.size wr ((wr.alloc (.cells (rfC rf0) 35)).setRow wr.heap.size (rfC (R i))) := below_setRow (below_new1 _ _) (Nat.le_refl _) _
        have HI1 : Hid (I i ((wr.alloc (.cells (rfC rf0) 35)).setRow wr.heap.size (rfC (R i)))) := HIB.out i wr _ hI (hb1.mono hsz)
        have HO1 : Hid (((wr.alloc (.cells (rfC rf0) 35)).setRow wr.heap.size (rfC (R i))).ownsRow w.heap.size 23 256 (.slice a i cap) i xs) := kown_below hown hb1
        have HS1 : Hid (w.heap.size ≤ ((wr.alloc (.cells (rfC rf0) 35)).setRow wr.heap.size (rfC (R i))).heap.size) := Nat.le_trans hsz hb1.size
        have HT1 : Hid (Turns (fun x => x < w.heap.size) w ((wr.alloc (.cells (rfC rf0) 35)).setRow wr.heap.size (rfC (R i)))) := hT.trans (.of_below hb1) fun x hx => .inl hx
        clear hI hown hrg hb1 hT
        go_wp2_with (first
          | (refine wpList_load_blk (by rfl) 35 _ (by rfl) (b0) (o0 + i * 33) 33 (rfF (R i).1 (R i).2) (by rfl) _ (by exact HRG.out) Try.underlying35 rfl slSizeRef ?_; simp only [Act.put, List.setIfInBounds_toArray, List.set_cons_zero, List.set_cons_succ])
          | (refine wpList_store_row (by rfl) 35 _ _ (by rfl) (wr.heap.size) (rfC (R i)) (by rfl) (by rfl) 35 (_) (by exact x0) (slSizeRef.trans (by rw [rfC_size])) (by simp only [rfC_size]) (rfC_all _) ?_; simp only [Act.put, List.setIfInBounds_toArray, List.set_cons_zero, List.set_cons_succ])
          | (refine wpList_load_rowg (by rfl) 35 _ (by rfl) (wr.heap.size) (by rfl) 35 (rfC (R i)) (0, 0) _ (by exact x1) Try.underlying35 (by rfl) (slSizeRef.trans (by rw [rfC_size])) ?_; simp only [Act.put, List.setIfInBounds_toArray, List.set_cons_zero, List.set_cons_succ])
          | fail)
        clear x0 x1 HRG
        generalize ((wr.alloc (.cells (rfC rf0) 35)).setRow wr.heap.size (rfC (R i))) = w1 at *
        refine (HG.out i hin w1 HI1.out HS1.out).mono ?_
        rintro e w2 ⟨rfl, hI2, ht2⟩
        rw [hE]
        have HI2 : Hid (I (i + 1) w2) := hI2
        have HS2 : Hid (w.heap.size ≤ w2.heap.size) := Nat.le_trans HS1.out ht2.size
        have HO2 : Hid (w2.ownsRow w.heap.size 23 256 (.slice a i cap) i xs) := kown_kept HO1.out fun x hx ho => ht2.block x (HO1.out.lt x ho).2 (by omega)
        have HT2 : Hid (Turns (fun x => x < w.heap.size) w w2) := HT1.out.trans ht2 fun x hx => .inl hx
        have q0 := Blk.new w2 23 (va 256 (iv .u8 fun _ => 0))
        have q1 := q0.set (va 256 (iv .u8 (bl i)))
        have hb3 : Below w2.heap.size w2 ((w2.alloc (.cells (va 256 (iv .u8 fun _ => 0)) 23)).setRow w2.heap.size (va 256 (iv .u8 (bl i)))) := below_setRow (below_new1 _ _) (Nat.le_refl _) _
        have HI3 : Hid (I (i + 1) ((w2.alloc (.cells (va 256 (iv .u8 fun _ => 0)) 23)).setRow w2.heap.size (va 256 (iv .u8 (bl i))))) := HIB.out _ w2 _ hI2 (hb3.mono HS2.out)
        have HO3 : Hid (((w2.alloc (.cells (va 256 (iv .u8 fun _ => 0)) 23)).setRow w2.heap.size (va 256 (iv .u8 (bl i)))).ownsRow w.heap.size 23 256 (.slice a i cap) i xs) := kown_below HO2.out hb3
        have HS3 : Hid (w.heap.size ≤ ((w2.alloc (.cells (va 256 (iv .u8 fun _ => 0)) 23)).setRow w2.heap.size (va 256 (iv .u8 (bl i)))).heap.size) := Nat.le_trans HS2.out hb3.size
        have HT3 : Hid (Turns (fun x => x < w.heap.size) w ((w2.alloc (.cells (va 256 (iv .u8 fun _ => 0)) 23)).setRow w2.heap.size (va 256 (iv .u8 (bl i))))) := HT2.out.trans (.of_below hb3) fun x hx => .inl hx
        clear hI2 ht2 hb3 HI1 HO1 HS1 HT1 HI2 HO2
        have hkb : (i + 1) * 256 ≤ 140737488351488 := by omega
        have HLEN : Hid ((va 256 (iv .u8 (bl i))).toList.length = 1 * 256) := by
          show _ = _
          rw [va_toList]
          simp
        have HMEM : Hid (∀ u ∈ (va 256 (iv .u8 (bl i))).toList, u.oneCell' = true) := kva_mem_one 256 (bl i)
        have HO4 : Hid ((((w2.alloc (.cells (va 256 (iv .u8 fun _ => 0)) 23)).setRow w2.heap.size (va 256 (iv .u8 (bl i)))).alloc (.cells (va 256 (iv .u8 (bl i))) 23)).ownsRow w.heap.size 23 256 (.slice a i cap) i xs) := HO3.out.alloc _
        have HNEW : Hid (∀ j u, (va 256 (iv .u8 (bl i))).toList[j]? = some u → (((w2.alloc (.cells (va 256 (iv .u8 fun _ => 0)) 23)).setRow w2.heap.size (va 256 (iv .u8 (bl i)))).alloc (.cells (va 256 (iv .u8 (bl i))) 23)).cell? ((⟨((w2.alloc (.cells (va 256 (iv .u8 fun _ => 0)) 23)).setRow w2.heap.size (va 256 (iv .u8 (bl i)))).heap.size, 0, none⟩ : Addr).add j) = some u) := cells_new ((w2.alloc (.cells (va 256 (iv .u8 fun _ => 0)) 23)).setRow w2.heap.size (va 256 (iv .u8 (bl i)))) _ _
        have HI4 : Hid (I (i + 1) (((w2.alloc (.cells (va 256 (iv .u8 fun _ => 0)) 23)).setRow w2.heap.size (va 256 (iv .u8 (bl i)))).alloc (.cells (va 256 (iv .u8 (bl i))) 23))) := HIB.out _ _ _ HI3.out ((below_new1 ((w2.alloc (.cells (va 256 (iv .u8 fun _ => 0)) 23)).setRow w2.heap.size (va 256 (iv .u8 (bl i)))) _).mono HS3.out)
        have HT4 : Hid (Turns (fun x => x < w.heap.size) w (((w2.alloc (.cells (va 256 (iv .u8 fun _ => 0)) 23)).setRow w2.heap.size (va 256 (iv .u8 (bl i)))).alloc (.cells (va 256 (iv .u8 (bl i))) 23))) := HT3.out.alloc _
        have HBS : Hid (w.heap.size ≤ (((w2.alloc (.cells (va 256 (iv .u8 fun _ => 0)) 23)).setRow w2.heap.size (va 256 (iv .u8 (bl i)))).alloc (.cells (va 256 (iv .u8 (bl i))) 23)).heap.size) := HT4.out.size
        have HV : Hid (∀ x, (Value.slice a i cap).ownBlock = some x → w.heap.size ≤ x ∧ x < (((w2.alloc (.cells (va 256 (iv .u8 fun _ => 0)) 23)).setRow w2.heap.size (va 256 (iv .u8 (bl i)))).alloc (.cells (va 256 (iv .u8 (bl i))) 23)).heap.size) := HO4.out.lt
        clear HO3 HI3 HT3 HS3
        go_wp2_with (first
          | (refine wpList_store_row (by rfl) 23 _ _ (by rfl) (w2.heap.size) (va 256 (iv .u8 (bl i))) (by rfl) (by rfl) 23 _ q0 (sizeBk.trans (by rw [va_size])) (by simp only [va_size]) (iv_one _ _ _) ?_; simp only [Act.put, List.setIfInBounds_toArray, List.set_cons_zero, List.set_cons_succ])
          | (refine wpList_load_row (by rfl) 23 _ (by rfl) (w2.heap.size) (by rfl) 23 (va 256 (iv .u8 (bl i))) (0, 0) _ q1 Try.underlying23 (by rfl) (sizeBk.trans (by rw [va_size])) ?_; simp only [Act.put, List.setIfInBounds_toArray, List.set_cons_zero, List.set_cons_succ])
          | (refine wpList_build1 (by rfl) 48 23 _ (by rfl) (va 256 (iv .u8 (bl i))) (by rfl) i0 _ 256 Try.underlying48 hi hz0 hz1 (va_size _ _) (by decide) (by decide) ?_; simp only [Act.put, List.setIfInBounds_toArray, List.set_cons_zero, List.set_cons_succ])
          | (at_builtin; refine wpList_append_own_at rfl _ _ 48 rfl w.heap.size 23 i0 (.agg (va 256 (iv .u8 fun _ => 0))) 256 256 Try.underlying48 hi hz0 hz1 hz2 (va_size _ _) (by decide) _ _ _ rfl HO4.out ⟨((w2.alloc (.cells (va 256 (iv .u8 fun _ => 0)) 23)).setRow w2.heap.size (va 256 (iv .u8 (bl i)))).heap.size, 0, none⟩ 1 1 (va 256 (iv .u8 (bl i))).toList rfl HLEN.out HNEW.out HMEM.out (by unfold maxLen; omega) (by omega) HBS.out ?_)
          | fail)
        clear q0 q1
        intro v' w5 hown' hgrow _
        have hb5 : Below w.heap.size (((w2.alloc (.cells (va 256 (iv .u8 fun _ => 0)) 23)).setRow w2.heap.size (va 256 (iv .u8 (bl i)))).alloc (.cells (va 256 (iv .u8 (bl i))) 23)) w5 := (Below.refl _ _).grown hgrow HBS.out (fun x hx => (HV.out x hx).1)
        obtain ⟨a5, cap5, rfl⟩ := kown_slice hown'
        have HO5 : Hid (w5.ownsRow w.heap.size 23 256 (.slice a5 (i + 1) cap5) (i + 1) (xs ++ (va 256 (iv .u8 (bl i))).toList)) := hown'
        have HI5 : Hid (I (i + 1) w5) := HIB.out _ _ _ HI4.out hb5
        have HT5 : Hid (Turns (fun x => x < w.heap.size) w w5) := ⟨hb5.os.trans HT4.out.os, hb5.tape.trans HT4.out.tape, hb5.output.trans HT4.out.output, Nat.le_trans HT4.out.size hb5.size, fun x hx hf => absurd hx hf⟩
        clear hown' hgrow hb5 HO4 HNEW HI4 HT4 HV HBS HLEN HMEM
        go_wp2_with fail
        go_roundw
        case rel => exact ⟨i + 1, cap5, a5, _, hlt, by congr 1, rfl, HI5.out, HO5.out, HT5.out.size, HT5.out⟩
        case measure =>
          simp only [intOf]
          omega
      · have hje : j = i := by omega
        subst hje
        have hE : er j = 4 := HST.out hin
        obtain ⟨b0, o0, ha, hrg⟩ := HIR.out j wr hin hI
        subst ha
        have HRG : Hid (wr.rangeAt b0 (o0 + j * 33) ((List.range 33).map (rfF (R j).1 (R j).2))) := hrg
        have i0' : (0 : Int) ≤ (j : Int) := by omega
        have i1' : (j : Int) < (n : Int) := by omega
        have x0 := Blk.new wr 35 (rfC rf0)
        have x1 := x0.set (rfC (R j))
        have hb1 : Below wr.heap.size wr ((wr.alloc (.cells (rfC rf0) 35)).setRow wr.heap.size (rfC (R j))) := below_setRow (below_new1 _ _) (Nat.le_refl _) _
        have HI1 : Hid (I j ((wr.alloc (.cells (rfC rf0) 35)).setRow wr.heap.size (rfC (R j)))) := HIB.out j wr _ hI (hb1.mono hsz)
        have HO1 : Hid (((wr.alloc (.cells (rfC rf0) 35)).setRow wr.heap.size (rfC (R j))).ownsRow w.heap.size 23 256 (.slice a j cap) j xs) := kown_below hown hb1
        have HS1 : Hid (w.heap.size ≤ ((wr.alloc (.cells (rfC rf0) 35)).setRow wr.heap.size (rfC (R j))).heap.size) := Nat.le_trans hsz hb1.size
        have HT1 : Hid (Turns (fun x => x < w.heap.size) w ((wr.alloc (.cells (rfC rf0) 35)).setRow wr.heap.size (rfC (R j)))) := hT.trans (.of_below hb1) fun x hx => .inl hx
        clear hI hown hrg hb1 hT
        go_wp2_with (first
          | (refine wpList_load_blk (by rfl) 35 _ (by rfl) (b0) (o0 + j * 33) 33 (rfF (R j).1 (R j).2) (by rfl) _ (by exact HRG.out) Try.underlying35 rfl slSizeRef ?_; simp only [Act.put, List.setIfInBounds_toArray, List.set_cons_zero, List.set_cons_succ])
          | (refine wpList_store_row (by rfl) 35 _ _ (by rfl) (wr.heap.size) (rfC (R j)) (by rfl) (by rfl) 35 (_) (by exact x0) (slSizeRef.trans (by rw [rfC_size])) (by simp only [rfC_size]) (rfC_all _) ?_; simp only [Act.put, List.setIfInBounds_toArray, List.set_cons_zero, List.set_cons_succ])
          | (refine wpList_load_rowg (by rfl) 35 _ (by rfl) (wr.heap.size) (by rfl) 35 (rfC (R j)) (0, 0) _ (by exact x1) Try.underlying35 (by rfl) (slSizeRef.trans (by rw [rfC_size])) ?_; simp only [Act.put, List.setIfInBounds_toArray, List.set_cons_zero, List.set_cons_succ])
          | fail)
        clear x0 x1 HRG
        generalize ((wr.alloc (.cells (rfC rf0) 35)).setRow wr.heap.size (rfC (R j))) = w1 at *
        refine (HG.out j hin w1 HI1.out HS1.out).mono ?_
        rintro e w2 ⟨rfl, hI2, ht2⟩
        rw [hE]
        have HI2 : Hid (I (j + 1) w2) := hI2
        have HS2 : Hid (w.heap.size ≤ w2.heap.size) := Nat.le_trans HS1.out ht2.size
        have HO2 : Hid (w2.ownsRow w.heap.size 23 256 (.slice a j cap) j xs) := kown_kept HO1.out fun x hx ho => ht2.block x (HO1.out.lt x ho).2 (by omega)
        have HT2 : Hid (Turns (fun x => x < w.heap.size) w w2) := HT1.out.trans ht2 fun x hx => .inl hx
        have q0 := Blk.new w2 23 (va 256 (iv .u8 fun _ => 0))
        have q1 := q0.set (va 256 (iv .u8 (bl j)))
        have hb3 : Below w2.heap.size w2 ((w2.alloc (.cells (va 256 (iv .u8 fun _ => 0)) 23)).setRow w2.heap.size (va 256 (iv .u8 (bl j)))) := below_setRow (below_new1 _ _) (Nat.le_refl _) _
        have HI3 : Hid (I (j + 1) ((w2.alloc (.cells (va 256 (iv .u8 fun _ => 0)) 23)).setRow w2.heap.size (va 256 (iv .u8 (bl j))))) := HIB.out _ w2 _ hI2 (hb3.mono HS2.out)
        have HO3 : Hid (((w2.alloc (.cells (va 256 (iv .u8 fun _ => 0)) 23)).setRow w2.heap.size (va 256 (iv .u8 (bl j)))).ownsRow w.heap.size 23 256 (.slice a j cap) j xs) := kown_below HO2.out hb3
        have HS3 : Hid (w.heap.size ≤ ((w2.alloc (.cells (va 256 (iv .u8 fun _ => 0)) 23)).setRow w2.heap.size (va 256 (iv .u8 (bl j)))).heap.size) := Nat.le_trans HS2.out hb3.size
        have HT3 : Hid (Turns (fun x => x < w.heap.size) w ((w2.alloc (.cells (va 256 (iv .u8 fun _ => 0)) 23)).setRow w2.heap.size (va 256 (iv .u8 (bl j))))) := HT2.out.trans (.of_below hb3) fun x hx => .inl hx
        clear hI2 ht2 hb3 HI1 HO1 HS1 HT1 HI2 HO2
        go_wp2_with (first
          | (refine wpList_store_row (by rfl) 23 _ _ (by rfl) (w2.heap.size) (va 256 (iv .u8 (bl j))) (by rfl) (by rfl) 23 _ q0 (sizeBk.trans (by rw [va_size])) (by simp only [va_size]) (iv_one _ _ _) ?_; simp only [Act.put, List.setIfInBounds_toArray, List.set_cons_zero, List.set_cons_succ])
          | fail)
        try simp only [Exit.inBlock, Exit.then]
        refine bodyPost_ret (results_tmp3 Try.results12 _ _ _) rfl ?_
        exact ⟨.inl ⟨hin, rfl, HI3.out⟩, HT3.out⟩
    · have hni : i = n := by omega
      have hjn : j = n := by omega
      subst hni
      subst hjn
      go_wp2_with fail
      try simp only [Exit.inBlock, Exit.then]
      refine bodyPost_ret (results_tmp3 Try.results12 _ _ _) rfl ?_
      exact ⟨by first | exact .inr ⟨rfl, a, cap, rfl, hI⟩ | exact ⟨a, cap, rfl, hI⟩ | exact ⟨⟨a, cap, rfl⟩, hI⟩, hT⟩
end Go.Proofs.Ytdniigefmlmcdab

namespace Go.Proofs.Ytdniigefmlmcdab
open Go Go.RowKit
set_option linter.unusedSimpArgs false
set_option linter.unusedVariables false

theorem ca_fold_setO (o : Nat) : ∀ (l : List Value) (k : Nat) (A : Array Value), o + k + l.length ≤ A.size →
    ((l.zipIdx k).foldl (fun cs (x : Value × Nat) => cs.setIfInBounds (o + x.2) x.1) A).size = A.size ∧
    ∀ i, ((l.zipIdx k).foldl (fun cs (x : Value × Nat) => cs.setIfInBounds (o + x.2) x.1) A)[i]? = if o + k ≤ i ∧ i < o + k + l.length then l[i - (o + k)]? else A[i]?
  | [], k, A, h => ⟨rfl, fun i => by simp; omega⟩
  | v :: l, k, A, h => by
    rw [List.zipIdx_cons, List.foldl_cons]
    obtain ⟨h1, h2⟩ := ca_fold_setO o l (k + 1) (A.setIfInBounds (o + k) v) (by simp at h ⊢; omega)
    refine ⟨by rw [h1]; simp, fun i => ?_⟩
    rw [h2 i]
    simp at h
    by_cases hi : i = o + k
    · subst hi
      rw [if_neg (by omega), if_pos (by simp), Array.getElem?_setIfInBounds, if_pos rfl, if_pos (by omega), Nat.sub_self]
      rfl
    · by_cases hj : o + (k + 1) ≤ i ∧ i < o + (k + 1) + l.length
      · rw [if_pos hj, if_pos (by simp; omega)]
        obtain ⟨d, hd⟩ : ∃ d, i - (o + k) = d + 1 := ⟨i - (o + k) - 1, by omega⟩
        rw [hd, List.getElem?_cons_succ, show i - (o + (k + 1)) = d by omega]
      · rw [if_neg hj, if_neg (by simp; omega), Array.getElem?_setIfInBounds, if_neg (by omega)]
theorem ca_fold_setA (o : Nat) (cs A : Array Value) (h : o + cs.size ≤ A.size) :
    (cs.zipIdx.foldl (fun z (x : Value × Nat) => match x with | (c, j) => z.setIfInBounds (o + j) c) A).size = A.size ∧ ∀ i, (cs.zipIdx.foldl (fun z (x : Value × Nat) => match x with | (c, j) => z.setIfInBounds (o + j) c) A)[i]? = if o ≤ i ∧ i < o + cs.size then cs[i - o]? else A[i]? := by
  have e3 : cs.zipIdx.foldl (fun z (x : Value × Nat) => match x with | (c, j) => z.setIfInBounds (o + j) c) A = (cs.toList.zipIdx 0).foldl (fun z (x : Value × Nat) => z.setIfInBounds (o + x.2) x.1) A := by
    rw [← Array.foldl_toList]
    simp
  rw [e3]
  obtain ⟨e1, e2⟩ := ca_fold_setO o cs.toList 0 A (by simpa using h)
  refine ⟨e1, fun i => ?_⟩
  rw [e2 i]
  simp
theorem ca_fill_two (n : Nat) (cells a b : Array Value) (h1 : cells.size = 2 * n) (ha : a.size = n) (hb : b.size = n) : Instr.fill (fun i => some (i * n, n)) cells [(0, .agg a), (1, .agg b)] = some (a ++ b) := by
  have hca : (Value.agg a).cells = a := rfl
  have hcb : (Value.agg b).cells = b := rfl
  obtain ⟨s1, g1⟩ := ca_fold_setA 0 a cells (by omega)
  unfold Instr.fill
  simp only [hca, ha, h1, ne_eq, not_true_eq_false, decide_false, Bool.false_or, Nat.zero_mul, gt_iff_lt, Bool.false_eq_true, if_false]
  rw [if_neg (by simp; omega)]
  generalize a.zipIdx.foldl (fun z (x : Value × Nat) => match x with | (c, j) => z.setIfInBounds (0 + j) c) cells = A1 at *
  unfold Instr.fill
  simp only [hcb, hb, Nat.one_mul]
  rw [if_neg (by simp; omega)]
  unfold Instr.fill
  congr 1
  obtain ⟨s2, g2⟩ := ca_fold_setA n b A1 (by omega)
  apply Array.ext_getElem?
  intro i
  rw [g2 i, g1 i, Array.getElem?_append]
  by_cases hi : n ≤ i ∧ i < n + b.size
  · rw [if_pos hi, if_neg (by omega), ha]
  · rw [if_neg hi]
    by_cases h0 : i < n
    · rw [if_pos (by omega), if_pos (by omega), Nat.sub_zero]
    · rw [if_neg (by omega), if_neg (by omega), Array.getElem?_eq_none (by omega), Array.getElem?_eq_none (by omega)]
theorem ca_buildTwo {P : Program} {ops : Array Oper} {rest : List Oper} {o : Oper} {a : Act} {w : World} {Q : Exit → Act → World → Prop} (hg : o.guard = none) (t e : TypeId) (x y : Operand) (ho : o.op = .buildSlice t 2 #[(0, x), (1, y)])
    (cs ds : Array Value) (hx : a.eval x = .agg cs) (hy : a.eval y = .agg ds) (ie : TypeInfo) (z : Value) (n : Nat)
    (hu : P.underlying t = some (.slice e)) (hie : P.info? e = some ie) (hz : ie.zero = some z) (hn : ie.size = n) (hcs : cs.size = n) (hds : ds.size = n) (h0 : 0 < n) (h24 : 2 * n ≤ 16777216)
    (h : wpList P ops Q rest (a.put o.dst (.slice (some ⟨w.heap.size, 0, none⟩) 2 2)) (w.alloc (.cells (cs ++ ds) e))) : wpList P ops Q (o :: rest) a w := by
  refine wpList_buildSlice hg t e 2 _ ho (cs ++ ds) ie z hu hie hz (by rw [hn]; omega) (by rw [hn]; omega) ?_ h
  rw [hn]
  have e1 : (Array.map (fun (x : Nat × Operand) => match x with | (i, x) => (i, a.eval x)) #[(0, x), (1, y)]).toList = [(0, Value.agg cs), (1, Value.agg ds)] := by
    simp [hx, hy]
  rw [e1]
  exact ca_fill_two n _ _ _ (by simp) hcs hds
end Go.Proofs.Ytdniigefmlmcdab

namespace Go.Proofs.Ytdniigefmlmcdab
open Go Go.RowKit
set_option linter.unusedSimpArgs false
set_option linter.unusedVariables false

/-- a struct built of one part -/
theorem ca_build1 {P : Program} {ops : Array Oper} {rest : List Oper} {o : Oper} {a : Act} {w : World} {Q : Exit → Act → World → Prop} (hg : o.guard = none) (t : TypeId) (x : Operand) (ho : o.op = .build t #[(0, x)]) (vx : Value) (hx : a.eval x = vx)
    (cells : Array Value) (hf : P.built t [(0, vx)] = some cells) (h : wpList P ops Q rest (a.put o.dst (.agg cells)) w) : wpList P ops Q (o :: rest) a w := by
  refine wpList_buildTo hg t _ ho o.dst rfl cells ?_ h
  have e : (Array.map (fun (x : Nat × Operand) => match x with | (i, x) => (i, a.eval x)) #[(0, x)]).toList = [(0, vx)] := by simp [hx]
  rw [e]
  exact hf
theorem two_cells (k0 k1 : Rf) : rfC k0 ++ rfC k1 = va 66 fun j => if j < 33 then rfF k0.1 k0.2 j else rfF k1.1 k1.2 (j - 33) := by
  refine va_ext (by rw [Array.size_append, rfC_size, rfC_size]) fun i hi => ?_
  rw [Array.getElem?_append, rfC_size]
  by_cases h : i < 33
  · rw [if_pos h, if_pos h]
    exact va_at (rfF k0.1 k0.2) h
  · rw [if_neg h, if_neg h]
    exact va_at (rfF k1.1 k1.2) (by omega)
theorem two_range {w : World} {s t : Nat} {k0 k1 : Rf} (h : Blk w s t (rfC k0 ++ rfC k1)) (i : Nat) (hi : i < 2) : w.rangeAt s (0 + i * 33) ((List.range 33).map (rfF (if i = 0 then k0 else k1).1 (if i = 0 then k0 else k1).2)) := by
  rw [two_cells] at h
  have := Blk.range h (0 + i * 33) 33 (by omega)
  rw [show ((List.range 33).map fun j => if 0 + i * 33 + j < 33 then rfF k0.1 k0.2 (0 + i * 33 + j) else rfF k1.1 k1.2 (0 + i * 33 + j - 33)) = (List.range 33).map (rfF (if i = 0 then k0 else k1).1 (if i = 0 then k0 else k1).2) from List.map_congr_left fun j hj => ?_] at this
  · exact this
  · have hj := List.mem_range.1 hj
    rcases Nat.eq_zero_or_pos i with h0 | h0
    · subst h0
      rw [if_pos (by omega), if_pos rfl, show 0 + 0 * 33 + j = j by omega]
    · have h1 : i = 1 := by omega
      subst h1
      rw [if_neg (by omega), if_neg (by decide), show 0 + 1 * 33 + j - 33 = j by omega]
/-- a cache with one entry, on a disk -/
structure DS (W : World) (B g : Nat) (F : Nat → Nat) (kk lg : Nat) (q : QD) (c m b : Nat) (k : Rf) (f : Nat → Nat) (h : Int) : Prop where
  disk : DiskQ W B g 16 F kk lg q
  ca : Blk W c 75 (caC (some ⟨g, 0, none⟩) none 4 m (some ⟨b, 0, none⟩) (some ⟨b, 0, none⟩) h 0 0 1)
  en : Blk W b 95 (enC k f none none)
  mp : MapIs rfV ptV W m [(k, b)]
  ap : ∀ x, foot g 16 q x → x ≠ c ∧ x ≠ m ∧ x ≠ b
section
variable {W W' : World} {B g kk lg c m b : Nat} {F : Nat → Nat} {q : QD} {k : Rf} {f : Nat → Nat} {h : Int}
theorem DS.below (hs : DS W B g F kk lg q c m b k f h) (hb : Below W.heap.size W W') : DS W' B g F kk lg q c m b k f h := ⟨hs.disk.below hb, hs.ca.below hb hs.ca.lt, hs.en.below hb hs.en.lt, hs.mp.below hb hs.mp.lt, hs.ap⟩
/-- all of it lies below -/
theorem DS.low {w : World} {h0 : Int} (hw : DS w B g F kk lg q c m b k f h0) (hs : DS W B g F kk lg q c m b k f h) (hb : Below w.heap.size W W') : DS W' B g F kk lg q c m b k f h := ⟨hs.disk.kept fun x hx => hb.block x (hw.disk.foots x hx).2, hs.ca.below hb hw.ca.lt, hs.en.below hb hw.en.lt, hs.mp.below hb hw.mp.lt, hs.ap⟩
theorem DS.bc (hs : DS W B g F kk lg q c m b k f h) : b ≠ c := fun e => blk_ne hs.en hs.ca (by decide) e
/-- the cache and its entry turned alone -/
theorem DS.turn {h' : Int} (hs : DS W B g F kk lg q c m b k f h) (hT : Turns (two c b) W W') (hc : Blk W' c 75 (caC (some ⟨g, 0, none⟩) none 4 m (some ⟨b, 0, none⟩) (some ⟨b, 0, none⟩) h' 0 0 1)) (he : Blk W' b 95 (enC k f none none)) : DS W' B g F kk lg q c m b k f h' :=
  ⟨hs.disk.kept fun x hx => hT.block x (hs.disk.foots x hx).2 fun z => by
    have := hs.ap x hx
    rcases z with z | z
    · exact this.1 z
    · exact this.2.2 z, hc, he, hs.mp.of (hT.block m hs.mp.lt fun z => by
    rcases z with z | z
    · exact hs.mp.ne hs.ca z
    · exact hs.mp.ne hs.en z), hs.ap⟩
end
/-- of two: the first one's, else the second one's -/
def pick2 {α : Type} (x y : α) : Nat → α := fun i => if i = 0 then x else y
section
variable {B g kk lg c m b : Nat} {F : Nat → Nat} {q : QD} {k : Rf} {f : Nat → Nat}
theorem getAll_c (hk0 : k.1 ≠ 0) (k1 : Rf) (hk1 : k1.1 ≠ 0) (hk16 : k1.1 < 16) (hne : k1 ≠ k) (hdd : q.dd = true) (s : Nat) (w : World) (hs : DS w B g F kk lg q c m b k f 0) (hsl : Blk w s 35 (rfC k ++ rfC k1)) :
    Calls Try.prog 12 #[.pointer (some ⟨c, 0, none⟩), .slice (some ⟨s, 0, none⟩) 2 2] w fun e w' => e = .returned (.tuple #[.slice none 0 0, .int .i64 1, .int .i64 4]) ∧ DS w' B g F kk lg q c m b k f 1 ∧ Turns (two c b) w w' := by
  have hsc : s ≠ c := fun e => blk_ne hsl hs.ca (by decide) e
  have hsb : s ≠ b := fun e => blk_ne hsl hs.en (by decide) e
  have hns : ¬ two c b s := fun z => by
    rcases z with z | z
    · exact hsc z
    · exact hsb z
  refine (getAll_walk (.pointer (some ⟨c, 0, none⟩)) (some ⟨s, 0, none⟩) 2 2 (by decide) (pick2 k k1) (pick2 f fun _ => 0) (pick2 0 4) (fun i W => DS W B g F kk lg q c m b k f (pick2 0 1 i) ∧ Turns (two c b) w W) w ⟨hs, turns_refl w⟩ ?_ ?_ ?_ 1 (by decide) ?_ ?_).mono ?_
  · intro i W W' hI hb
    exact ⟨hs.low hI.1 hb, ⟨hb.os.trans hI.2.os, hb.tape.trans hI.2.tape, hb.output.trans hI.2.output, Nat.le_trans hI.2.size hb.size, fun x hx hf => (hb.block x hx).trans (hI.2.block x hx hf)⟩⟩
  · intro i W hi hI
    exact ⟨s, 0, rfl, two_range (hI.2.blk hsl hns) i hi⟩
  · intro i hi W hI hsz
    rcases Nat.eq_zero_or_pos i with h0 | h0
    · subst h0
      have hI1 : DS W B g F kk lg q c m b k f 0 := hI.1
      refine (caGet_hit (h := 0) k (fun e => hk0 (by rw [e]; rfl)) f hI1.bc (by decide) W hI1.ca hI1.en hI1.mp).mono ?_
      rintro e W' ⟨h1, h2, h3, h4⟩
      refine ⟨h1, ⟨hI1.turn h4 h2 h3, hI.2.trans h4 fun x hx => .inl hx⟩, h4.mono fun x hx => ?_⟩
      rcases hx with z | z
      · rw [z]; exact hs.ca.lt
      · rw [z]; exact hs.en.lt
    · have h1 : i = 1 := by omega
      subst h1
      have hI1 : DS W B g F kk lg q c m b k f 1 := hI.1
      refine (caGet_dead k1 hk1 hk16 (by decide) [(k, b)] (by simp [findIn, hne]) hdd W hI1.disk hI1.ca hI1.mp).mono ?_
      rintro e W' ⟨h1, h2⟩
      exact ⟨h1, ⟨hI1.below h2, hI.2.trans (.of_below h2) fun x hx => .inl hx⟩, .of_below h2⟩
  · intro i hi
    have : i = 0 := by omega
    subst this
    rfl
  · intro _
    rfl
  · rintro e w' ⟨h1, h2⟩
    rcases h1 with ⟨_, h3, h4⟩ | ⟨h3, _⟩
    · exact ⟨h3, h4.1, h4.2⟩
    · omega
end
theorem getAll_nil2 (k : Rf) (hk : k ≠ rf0) (s : Nat) (w : World) (hsl : Blk w s 35 (rfC rf0 ++ rfC k)) : Calls Try.prog 12 #[.pointer none, .slice (some ⟨s, 0, none⟩) 2 2] w fun e w' => e = .returned (.tuple #[.slice none 0 0, .int .i64 1, .int .i64 4]) ∧ Below w.heap.size w w' := by
  refine (getAll_walk (.pointer none) (some ⟨s, 0, none⟩) 2 2 (by decide) (pick2 rf0 k) (fun _ _ => 0) (pick2 0 4) (fun i W => Below w.heap.size w W) w (Below.refl _ _) ?_ ?_ ?_ 1 (by decide) ?_ ?_).mono ?_
  · intro i W W' hI hb
    exact hI.trans hb
  · intro i W hi hI
    exact ⟨s, 0, rfl, two_range (hsl.below hI hsl.lt) i hi⟩
  · intro i hi W hI hsz
    rcases Nat.eq_zero_or_pos i with h0 | h0
    · subst h0
      refine (caGet_nil rf0 W).mono ?_
      rintro e W' ⟨h1, h2⟩
      rw [if_pos rfl] at h1
      exact ⟨h1, hI.trans (h2.mono hsz), .of_below h2⟩
    · have h1 : i = 1 := by omega
      subst h1
      refine (caGet_nil k W).mono ?_
      rintro e W' ⟨h1, h2⟩
      rw [if_neg hk] at h1
      exact ⟨h1, hI.trans (h2.mono hsz), .of_below h2⟩
  · intro i hi
    have : i = 0 := by omega
    subst this
    rfl
  · intro _
    rfl
  · rintro e w' ⟨h1, h2⟩
    rcases h1 with ⟨_, h3, h4⟩ | ⟨h3, _⟩
    · exact ⟨h3, h4⟩
    · omega
theorem getAll_nil1 (s : Nat) (w : World) (hsl : Blk w s 35 (rfC rf0)) : Calls Try.prog 12 #[.pointer none, .slice (some ⟨s, 0, none⟩) 1 1] w fun e w' => ∃ a cap, e = .returned (.tuple #[.slice a 1 cap, .int .i64 0, .int .i64 0]) ∧ Below w.heap.size w w' := by
  refine (getAll_walk (.pointer none) (some ⟨s, 0, none⟩) 1 1 (by decide) (fun _ => rf0) (fun _ _ => 0) (fun _ => 0) (fun i W => Below w.heap.size w W) w (Below.refl _ _) ?_ ?_ ?_ 1 (by decide) ?_ ?_).mono ?_
  · intro i W W' hI hb
    exact hI.trans hb
  · intro i W hi hI
    have h0 : i = 0 := by omega
    subst h0
    refine ⟨s, 0, rfl, ?_⟩
    have := Blk.range (n := 33) (f := rfF rf0.1 rf0.2) (hsl.below hI hsl.lt) 0 33 (by decide)
    rw [show ((List.range 33).map fun j => rfF rf0.1 rf0.2 (0 + j)) = (List.range 33).map (rfF rf0.1 rf0.2) from List.map_congr_left fun j _ => by rw [Nat.zero_add]] at this
    exact this
  · intro i hi W hI hsz
    refine (caGet_nil rf0 W).mono ?_
    rintro e W' ⟨h1, h2⟩
    rw [if_pos rfl] at h1
    exact ⟨h1, hI.trans (h2.mono hsz), .of_below h2⟩
  · intro i hi
    rfl
  · intro h
    omega
  · rintro e w' ⟨h1, h2⟩
    rcases h1 with ⟨h3, _⟩ | ⟨_, a, cap, h3, h4⟩
    · omega
    · exact ⟨a, cap, h3, h4⟩
end Go.Proofs.Ytdniigefmlmcdab

namespace Go.Proofs.Ytdniigefmlmcdab
open Go Go.RowKit
set_option linter.unusedSimpArgs false
set_option linter.unusedVariables false

theorem awake8_put (X : Vector Nat 32) (hX : X = dgB f7) : ∀ (B g c m : Nat) (q : QD) (w : World), Quiet q 0 → B ≤ w.heap.size → DiskQ w B g 16 (fun _ => 0) 0 0 q → ¬ foot g 16 q c → ¬ foot g 16 q m → Blk w c 75 (caC (some ⟨g, 0, none⟩) none 1 m none none 0 0 0 0) → MapIs rfV ptV w m [] → Calls Try.prog 6 #[.pointer (some ⟨c, 0, none⟩), .int .u32 3, .agg (va 256 (iv .u8 f7))] w fun e w' => e = .returned (.tuple #[.agg (rfC (3, X)), .int .i64 0]) ∧ ∃ b, w.heap.size ≤ b ∧ Blk w' c 75 (caC (some ⟨g, 0, none⟩) none 1 m (some ⟨b, 0, none⟩) (some ⟨b, 0, none⟩) 0 0 0 1) ∧ Blk w' b 95 (enC (3, X) f7 none none) ∧ MapIs rfV ptV w' m [((3, X), b)] ∧ Turns (cafoot g 16 q c m) w w' := fun B g c m q w hq hB hd hnc hnm hg hm => by
  subst hX
  refine (caPut_first (room := 1) (cn := 0) (by decide) (by decide) 3 (by decide) (by decide) (by decide) f7 (by decide) (by decide) hq w hB hd hnc hnm hg hm).mono ?_
  rintro e w' ⟨h1, b, q', h2, h3, h4, h5, _, _, h6, _⟩
  exact ⟨h1, b, h2, h3, h4, h5, h6⟩
theorem awake8_get (X : Vector Nat 32) : ∀ (g c m b : Nat) (w : World), b ≠ c → Blk w c 75 (caC (some ⟨g, 0, none⟩) none 1 m (some ⟨b, 0, none⟩) (some ⟨b, 0, none⟩) 0 0 0 1) → Blk w b 95 (enC (3, X) f7 none none) → MapIs rfV ptV w m [((3, X), b)] → Calls Try.prog 23 #[.pointer (some ⟨c, 0, none⟩), .agg (rfC (3, X))] w fun e w' => e = .returned (.tuple #[.agg (va 256 (iv .u8 f7)), .int .i64 0]) ∧ Blk w' c 75 (caC (some ⟨g, 0, none⟩) none 1 m (some ⟨b, 0, none⟩) (some ⟨b, 0, none⟩) 1 0 0 1) ∧ Turns (two c b) w w' := fun g c m b w hcb hg he hm => by
  refine (caGet_hit (h := 0) (3, X) (fun e => by have := congrArg Prod.fst e; simp [rf0] at this) f7 hcb (by decide) w hg he hm).mono ?_
  rintro e w' ⟨h1, h2, _, h3⟩
  exact ⟨h1, h2, h3⟩
theorem awake8_has (X : Vector Nat 32) : ∀ (g c m b : Nat) (w : World), Blk w c 75 (caC (some ⟨g, 0, none⟩) none 1 m (some ⟨b, 0, none⟩) (some ⟨b, 0, none⟩) 1 0 0 1) → MapIs rfV ptV w m [((3, X), b)] → Calls Try.prog 13 #[.pointer (some ⟨c, 0, none⟩), .agg (rfC (3, X))] w fun e w' => e = .returned (.bool true) ∧ Below w.heap.size w w' := fun g c m b w hg hm => by
  have := caHas_at (3, X) [((3, X), b)] w hg hm
  rw [show (findIn (3, X) [((3, X), b)]).isSome = true by simp [findIn]] at this
  exact this
set_option maxRecDepth 100000 in
set_option maxHeartbeats 4000000 in
theorem awake8_any (w : World) : Calls Try.prog 7 #[] w fun e w' => e = .returned (.bool true) ∧ Below w.heap.size w w' := by
  obtain ⟨X, hX⟩ : ∃ X, X = dgB f7 := ⟨_, rfl⟩
  have hP : Hid (∀ (B g c m : Nat) (q : QD) (w : World), Quiet q 0 → B ≤ w.heap.size → DiskQ w B g 16 (fun _ => 0) 0 0 q → ¬ foot g 16 q c → ¬ foot g 16 q m → Blk w c 75 (caC (some ⟨g, 0, none⟩) none 1 m none none 0 0 0 0) → MapIs rfV ptV w m [] → Calls Try.prog 6 #[.pointer (some ⟨c, 0, none⟩), .int .u32 3, .agg (va 256 (iv .u8 f7))] w fun e w' => e = .returned (.tuple #[.agg (rfC (3, X)), .int .i64 0]) ∧ ∃ b, w.heap.size ≤ b ∧ Blk w' c 75 (caC (some ⟨g, 0, none⟩) none 1 m (some ⟨b, 0, none⟩) (some ⟨b, 0, none⟩) 0 0 0 1) ∧ Blk w' b 95 (enC (3, X) f7 none none) ∧ MapIs rfV ptV w' m [((3, X), b)] ∧ Turns (cafoot g 16 q c m) w w') := awake8_put X hX
  have hG : Hid (∀ (g c m b : Nat) (w : World), b ≠ c → Blk w c 75 (caC (some ⟨g, 0, none⟩) none 1 m (some ⟨b, 0, none⟩) (some ⟨b, 0, none⟩) 0 0 0 1) → Blk w b 95 (enC (3, X) f7 none none) → MapIs rfV ptV w m [((3, X), b)] → Calls Try.prog 23 #[.pointer (some ⟨c, 0, none⟩), .agg (rfC (3, X))] w fun e w' => e = .returned (.tuple #[.agg (va 256 (iv .u8 f7)), .int .i64 0]) ∧ Blk w' c 75 (caC (some ⟨g, 0, none⟩) none 1 m (some ⟨b, 0, none⟩) (some ⟨b, 0, none⟩) 1 0 0 1) ∧ Turns (two c b) w w') := awake8_get X
  have hH : Hid (∀ (g c m b : Nat) (w : World), Blk w c 75 (caC (some ⟨g, 0, none⟩) none 1 m (some ⟨b, 0, none⟩) (some ⟨b, 0, none⟩) 1 0 0 1) → MapIs rfV ptV w m [((3, X), b)] → Calls Try.prog 13 #[.pointer (some ⟨c, 0, none⟩), .agg (rfC (3, X))] w fun e w' => e = .returned (.bool true) ∧ Below w.heap.size w w') := awake8_has X
  clear hX
  have hz := zero_bk
  have hzr := zero_ref
  have hN : Hid (∀ w : World, Calls Try.prog 4 #[.int .i64 16] w fun e w' => ∃ g q, e = .returned (.tuple #[.pointer (some ⟨g, 0, none⟩), .int .i64 0]) ∧ DiskQ w' w.heap.size g 16 (fun _ => 0) 0 0 q ∧ Quiet q 0 ∧ Below w.heap.size w w') := fun w => diskNew_any 16 (by decide) (by decide) w
  have hC : Hid (∀ (g : Nat) (w : World), Calls Try.prog 5 #[.pointer (some ⟨g, 0, none⟩), .pointer none, .int .i64 1] w fun e w' => ∃ c m, e = .returned (.tuple #[.pointer (some ⟨c, 0, none⟩), .int .i64 0]) ∧ (w.heap.size ≤ c ∧ w.heap.size ≤ m) ∧ Blk w' c 75 (caC (some ⟨g, 0, none⟩) none 1 m none none 0 0 0 0) ∧ MapIs rfV ptV w' m [] ∧ Below w.heap.size w w') := fun g w => caNew_ok g none 1 (by decide) (by decide) w
  have e7 : (va 256 (iv .u8 fun _ => 0)).setIfInBounds 0 (.int .u8 7) = va 256 (iv .u8 f7) := by
    rw [va_set]
    refine va_congr fun i _ => ?_
    unfold upd iv f7
    by_cases hi : i = 0
    · rw [if_pos hi, if_pos hi]
      rfl
    · rw [if_neg hi, if_neg hi]
  have HE7 : Hid ((va 256 (iv .u8 fun _ => 0)).setIfInBounds 0 (.int .u8 7) = va 256 (iv .u8 f7)) := e7
  clear e7
  go_enter Try.func7, Try.ntmps7
  go_wp2_with fail
  refine (hN.out _).mono ?_
  rintro e w1 ⟨g, q, rfl, hq, hqt, hb1⟩
  have HQ1 : Hid (DiskQ w1 w.heap.size g 16 (fun _ => 0) 0 0 q) := hq
  have HT1 : Hid (Quiet q 0) := hqt
  clear hq hqt
  go_wp2_with fail
  refine (hC.out _ _).mono ?_
  rintro e w2 ⟨c, m, rfl, hcm, hg2, hm2, hb2⟩
  have HG2 : Hid (Blk w2 c 75 (caC (some ⟨g, 0, none⟩) none 1 m none none 0 0 0 0)) := hg2
  have HM2 : Hid (MapIs rfV ptV w2 m []) := hm2
  have HQ2 : Hid (DiskQ w2 w.heap.size g 16 (fun _ => 0) 0 0 q) := HQ1.out.below hb2
  have HCM : Hid (w1.heap.size ≤ c ∧ w1.heap.size ≤ m) := hcm
  have HNF : Hid (¬ foot g 16 q c ∧ ¬ foot g 16 q m) := ⟨fun z => by have := (HQ1.out.foots _ z).2; have := hcm.1; omega, fun z => by have := (HQ1.out.foots _ z).2; have := hcm.2; omega⟩
  have hb2' : Below w.heap.size w w2 := hb1.trans (hb2.mono hb1.size)
  have HL1 : Hid (w.heap.size ≤ w1.heap.size) := hb1.size
  clear hg2 hm2 hcm hb1 hb2 HQ1 hN hC
  go_wp2_with fail
  rw [HE7.out]
  refine (hP.out _ g c m q w2 HT1.out hb2'.size HQ2.out HNF.out.1 HNF.out.2 HG2.out HM2.out).mono ?_
  rintro e w3 ⟨rfl, b, hb3, hg3, he3, hm3, ht3⟩
  have HLB : Hid (b < w3.heap.size ∧ c < w3.heap.size ∧ b ≠ c ∧ m < w3.heap.size) := ⟨he3.lt, hg3.lt, by
    have := HG2.out.lt
    omega, hm3.lt⟩
  have x3 := Blk.new w3 35 (rfC rf0)
  have x4 := x3.set (rfC (3, X))
  have hb4 : Below w3.heap.size w3 ((w3.alloc (.cells (rfC rf0) 35)).setRow w3.heap.size (rfC (3, X))) := below_setRow (below_new1 _ _) (Nat.le_refl _) _
  have HG4 : Hid (Blk ((w3.alloc (.cells (rfC rf0) 35)).setRow w3.heap.size (rfC (3, X))) c 75 (caC (some ⟨g, 0, none⟩) none 1 m (some ⟨b, 0, none⟩) (some ⟨b, 0, none⟩) 0 0 0 1)) := hg3.below hb4 hg3.lt
  have HE4 : Hid (Blk ((w3.alloc (.cells (rfC rf0) 35)).setRow w3.heap.size (rfC (3, X))) b 95 (enC (3, X) f7 none none)) := he3.below hb4 he3.lt
  have HM4 : Hid (MapIs rfV ptV ((w3.alloc (.cells (rfC rf0) 35)).setRow w3.heap.size (rfC (3, X))) m [((3, X), b)]) := hm3.below hb4 hm3.lt
  have hlow : Below w.heap.size w2 w3 := ht3.below hb2'.size fun z hz => by
    have h1 := HL1.out
    have h2 := HCM.out
    rcases hz with u | u | u
    · exact (HQ2.out.foots z u).1
    · omega
    · omega
  have hb4' : Below w.heap.size w ((w3.alloc (.cells (rfC rf0) 35)).setRow w3.heap.size (rfC (3, X))) := (hb2'.trans hlow).trans (hb4.mono (hb2'.trans hlow).size)
  have HS3 : Hid (w.heap.size ≤ w3.heap.size) := (hb2'.trans hlow).size
  have HB3 : Hid (w2.heap.size ≤ b) := hb3
  have HL2 : Hid (w.heap.size ≤ w2.heap.size) := hb2'.size
  clear hg3 he3 hm3 ht3 hb4 hlow HG2 HM2 HQ2 HT1 hP hb3 hb2'
  go_wp2_with (first
    | (refine wpList_store_row (by rfl) 35 _ _ (by rfl) (w3.heap.size) (rfC (3, X)) (by rfl) (by rfl) 35 (_) (by exact x3) (slSizeRef.trans (by rw [rfC_size])) (by simp only [rfC_size]) (rfC_all _) ?_; simp only [Act.put, List.setIfInBounds_toArray, List.set_cons_zero, List.set_cons_succ])
    | (refine wpList_load_rowg (by rfl) 35 _ (by rfl) (w3.heap.size) (by rfl) 35 (rfC (3, X)) (0, 0) _ (by exact x4) Try.underlying35 (by rfl) (slSizeRef.trans (by rw [rfC_size])) ?_; simp only [Act.put, List.setIfInBounds_toArray, List.set_cons_zero, List.set_cons_succ])
    | fail)
  clear x3
  generalize ((w3.alloc (.cells (rfC rf0) 35)).setRow w3.heap.size (rfC (3, X))) = w4 at *
  generalize hX5 : w3.heap.size = x5 at *
  clear hX5
  refine (hG.out _ _ _ b _ HLB.out.2.2.1 HG4.out HE4.out HM4.out).mono ?_
  rintro e w5 ⟨rfl, hg5, ht5⟩
  have x55 := ht5.blk x4 (fun z => by have := HLB.out; rcases z with z | z <;> omega)
  have HM5 : Hid (MapIs rfV ptV w5 m [((3, X), b)]) := HM4.out.of (ht5.block m HM4.out.lt (fun z => by
    rcases z with z | z
    · exact HM4.out.ne HG4.out z
    · exact HM4.out.ne HE4.out z))
  have y5 := Blk.new w5 23 (va 256 (iv .u8 fun _ => 0))
  have y6 := y5.set (va 256 (iv .u8 f7))
  have hb6 : Below w5.heap.size w5 ((w5.alloc (.cells (va 256 (iv .u8 fun _ => 0)) 23)).setRow w5.heap.size (va 256 (iv .u8 f7))) := below_setRow (below_new1 _ _) (Nat.le_refl _) _
  have x6 := x55.below hb6 x55.lt
  have HG6 : Hid (Blk ((w5.alloc (.cells (va 256 (iv .u8 fun _ => 0)) 23)).setRow w5.heap.size (va 256 (iv .u8 f7))) c 75 (caC (some ⟨g, 0, none⟩) none 1 m (some ⟨b, 0, none⟩) (some ⟨b, 0, none⟩) 1 0 0 1)) := hg5.below hb6 hg5.lt
  have HM6 : Hid (MapIs rfV ptV ((w5.alloc (.cells (va 256 (iv .u8 fun _ => 0)) 23)).setRow w5.heap.size (va 256 (iv .u8 f7))) m [((3, X), b)]) := HM5.out.below hb6 HM5.out.lt
  have hlow : Below w.heap.size w4 w5 := ht5.below hb4'.size fun z hz => by
    have h1 := HL1.out
    have h2 := HCM.out
    have h3 := HB3.out
    have h4 := HL2.out
    rcases hz with u | u <;> omega
  have hb6' : Below w.heap.size w ((w5.alloc (.cells (va 256 (iv .u8 fun _ => 0)) 23)).setRow w5.heap.size (va 256 (iv .u8 f7))) := (hb4'.trans hlow).trans (hb6.mono (hb4'.trans hlow).size)
  have z0 : ((w5.alloc (.cells (va 256 (iv .u8 fun _ => 0)) 23)).setRow w5.heap.size (va 256 (iv .u8 f7))).cell? ⟨w5.heap.size, 0, none⟩ = some (.int .u8 7) := by
    rw [y6.cell]
    rfl
  have z1 : ((w5.alloc (.cells (va 256 (iv .u8 fun _ => 0)) 23)).setRow w5.heap.size (va 256 (iv .u8 f7))).cell? ⟨x5, 0, none⟩ = some (.int .u32 3) := by
    rw [x6.cell]
    rfl
  clear hg5 ht5 x55 hb6 hlow HM5 HG4 HE4 HM4 hG hb4' x4
  go_wp2_with (first
    | (refine wpList_store_row (by rfl) 23 _ _ (by rfl) (w5.heap.size) (va 256 (iv .u8 f7)) (by rfl) (by rfl) 23 _ y5 (sizeBk.trans (by rw [va_size])) (by simp only [va_size]) (iv_one _ _ _) ?_; simp only [Act.put, List.setIfInBounds_toArray, List.set_cons_zero, List.set_cons_succ])
    | (refine wpList_load_rowg (by rfl) 35 _ (by rfl) (x5) (by rfl) 35 (rfC (3, X)) (0, 0) _ (by exact x6) Try.underlying35 (by rfl) (slSizeRef.trans (by rw [rfC_size])) ?_; simp only [Act.put, List.setIfInBounds_toArray, List.set_cons_zero, List.set_cons_succ])
    | fail)
  clear y5 y6
  generalize ((w5.alloc (.cells (va 256 (iv .u8 fun _ => 0)) 23)).setRow w5.heap.size (va 256 (iv .u8 f7))) = w6 at *
  refine (hH.out _ _ _ b _ HG6.out HM6.out).mono ?_
  rintro e w7 ⟨rfl, hb7⟩
  go_wp2_with fail
  go_ret
  exact ⟨rfl, hb6'.trans (hb7.mono hb6'.size)⟩
end Go.Proofs.Ytdniigefmlmcdab
