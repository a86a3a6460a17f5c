/- Trees: All, Count and Last. -/
import Derived.Test.YtjhabngibbmpbaaGreatHTrWalk2
import Derived.Test.YtjhabngibbmpbaaGreatHTrRDown
import Derived.Test.YtjhabngibbmpbaaGreatHTrNew
import Derived.Handy
import Derived.Test.YtjhabngibbmpbaaGreatHTrEach
import Derived.BigQuiet
import Derived.Deep.QuietTactic

namespace Go.Proofs.YtjhabngibbmpbaaGreat
theorem sgLHTrAll : (∀ (α : Type) (a : α) (l r : List α), (a :: l) ++ r = a :: (l ++ r)) ∧ (∀ (α : Type) (l : List α), [] ++ l = l) ∧ (∀ (α : Type) (l : List α), l ++ [] = l) ∧ (∀ (α β : Type) (f : α → Option β) (a : α) (l : List α), (a :: l).filterMap f = match f a with | none => l.filterMap f | some b => b :: l.filterMap f) ∧ (∀ (α β : Type) (f : α → Option β), [].filterMap f = []) ∧ (∀ (α : Type) (l : List α) (i : Nat), l.toArray[i]? = l[i]?) ∧ (∀ (α : Type) (a : α) (l : List α), (a :: l)[0]? = some a) ∧ (∀ (α : Type) (a : α) (l : List α) (i : Nat), (a :: l)[i + 1]? = l[i]?) :=
  ⟨fun _ _ _ _ => List.cons_append, fun _ _ => List.nil_append _, fun _ _ => List.append_nil _, fun _ _ _ _ _ => List.filterMap_cons, fun _ _ _ => List.filterMap_nil, fun _ _ _ => List.getElem?_toArray, fun _ _ _ => List.getElem?_cons_zero, fun _ _ _ _ => List.getElem?_cons_succ⟩
theorem sgPHTrAll : (∀ (α : Type) (l : List α) (i : Nat) (a : α), l.toArray.setIfInBounds i a = (l.set i a).toArray) ∧ (∀ (α : Type) (a b : α) (l : List α), (a :: l).set 0 b = b :: l) ∧ (∀ (α : Type) (a b : α) (l : List α) (i : Nat), (a :: l).set (i + 1) b = a :: l.set i b) :=
  ⟨fun _ _ _ _ => List.setIfInBounds_toArray _ _ _, fun _ _ _ _ => List.set_cons_zero, fun _ _ _ _ _ => List.set_cons_succ⟩
end Go.Proofs.YtjhabngibbmpbaaGreat
namespace Go.Proofs.YtjhabngibbmpbaaGreat
open Go Go.RowKit
set_option linter.unusedSimpArgs false
set_option linter.unusedVariables false
/-- a position -/
abbrev Ps := Nat × Int × Rf
/-- positions as cells -/
def posL (l : List Ps) : List Value := l.flatMap fun x => (poC (x.1 : Int) x.2.1 x.2.2).toList
theorem posL_snoc (l : List Ps) (x : Ps) : posL (l ++ [x]) = posL l ++ (poC (x.1 : Int) x.2.1 x.2.2).toList := by simp [posL]
theorem posL_app (l m : List Ps) : posL (l ++ m) = posL l ++ posL m := by simp [posL]
theorem poC_list (l p : Int) (R : Rf) : (poC l p R).toList.length = 35 := by rw [Array.length_toList, poC_size]
theorem posL_len : ∀ l : List Ps, (posL l).length = l.length * 35
  | [] => rfl
  | x :: l => by
    show ((poC (x.1 : Int) x.2.1 x.2.2).toList ++ posL l).length = _
    rw [List.length_append, posL_len l, poC_list]
    simp
    omega
theorem arr_memT {cs : Array Value} (h : cs.all (·.oneCell') = true) : ∀ v ∈ cs.toList, v.oneCell' = true := fun v hv => by
  rw [Array.all_eq_true] at h
  obtain ⟨i, hi, e⟩ := List.getElem_of_mem hv
  have := h i (by simpa using hi)
  rw [← e]
  simpa using this
theorem posL_one (l : List Ps) : ∀ u ∈ posL l, u.oneCell' = true := fun u hu => by
  obtain ⟨x, _, hx⟩ := List.mem_flatMap.1 hu
  exact arr_memT (poC_all _ _ _) u hx
/-- four lists, one behind the other, until one fails -/
def bnK (f : Nat → List Ps × Int) : Nat → Nat → List Ps → List Ps × Int
  | 0, _, acc => (acc, 0)
  | m + 1, k, acc => if (f k).2 = 0 then bnK f m (k + 1) (acc ++ (f k).1) else (acc ++ (f k).1, (f k).2)
/-- all positions from one on, and what is wrong -/
def bnR (F : Nat → Nat) (N : Nat) : Nat → Int → Rf → List Ps × Int
  | 0, p, R => if R = rf0 then ([], 0) else ([(0, p, R)], 0)
  | n + 1, p, R => if R = rf0 then ([], 0) else if nodE F N ((n + 1 : Nat) : Int) R = 0 then bnK (fun k => bnR F N n (4 * p + (k : Int)) (decK (gotF F N R) k)) 4 0 [(n + 1, p, R)] else ([(n + 1, p, R)], nodE F N ((n + 1 : Nat) : Int) R)
/-- how many there can be -/
def cN : Nat → Nat
  | 0 => 1
  | n + 1 => 1 + 4 * cN n
theorem cN_le {n : Nat} (h : n ≤ 6) : cN n ≤ 5461 := by
  have : n = 0 ∨ n = 1 ∨ n = 2 ∨ n = 3 ∨ n = 4 ∨ n = 5 ∨ n = 6 := by omega
  rcases this with rfl | rfl | rfl | rfl | rfl | rfl | rfl <;> decide
theorem bnK_len {f : Nat → List Ps × Int} {z : Nat} (hf : ∀ k, (f k).1.length ≤ z) : ∀ (m k : Nat) (acc : List Ps), (bnK f m k acc).1.length ≤ acc.length + m * z
  | 0, k, acc => by simp [bnK]
  | m + 1, k, acc => by
    have h1 := hf k
    have h2 : (m + 1) * z = m * z + z := Nat.succ_mul _ _
    unfold bnK
    split
    · have := bnK_len hf m (k + 1) (acc ++ (f k).1)
      rw [List.length_append] at this
      omega
    · simp only [List.length_append]
      omega
theorem bnR_len (F : Nat → Nat) (N : Nat) : ∀ (n : Nat) (p : Int) (R : Rf), (bnR F N n p R).1.length ≤ cN n
  | 0, p, R => by
    unfold bnR cN
    split <;> simp
  | n + 1, p, R => by
    unfold bnR cN
    split
    · simp
    · split
      · have := bnK_len (f := fun k => bnR F N n (4 * p + (k : Int)) (decK (gotF F N R) k)) (z := cN n) (fun k => bnR_len F N n _ _) 4 0 [(n + 1, p, R)]
        simp only [List.length_singleton] at this
        omega
      · simp
theorem rinfoPo : (Tryz.prog.info? 77).map (fun i => (i.zero, i.size, i.bytes)) = some (some (.agg (poC 0 0 rf0)), 35, 56) := by kernel_rfl
theorem rsizePo : (Tryz.prog.info? 77).map (·.size) = some 35 := by kernel_rfl
theorem rbuilt_po3 (l p : Int) (R : Rf) : Tryz.prog.built 77 [(0, .int .i64 l), (1, .int .i64 p), (2, .agg (rfC R))] = some (poC l p R) := by kernel_rfl
/-- a slice of one element -/
theorem own_one (w : World) (B e sz : Nat) (cs : Array Value) (hc : cs.size = sz) (hB : B ≤ w.heap.size) : (w.alloc (.cells cs e)).ownsRow B e sz (.slice (some ⟨w.heap.size, 0, none⟩) 1 1) 1 cs.toList := by
  refine ⟨by rw [Array.length_toList, hc, Nat.one_mul], .inr ⟨w.heap.size, 1, cs, rfl, hB, Blk.new _ _ _, Nat.le_refl _, by unfold maxLen; omega, by rw [hc, Nat.one_mul], ?_⟩⟩
  rw [Nat.one_mul, ← hc, ← Array.length_toList, List.take_length]
section
variable {F : Nat → Nat} {N : Nat}
/-- what beneath answers -/
def BnP (w : World) (L : List Ps) (er : Int) (e : Ending) (w' : World) : Prop := ∃ a c, e = .returned (.tuple #[.slice (some ⟨a, 0, none⟩) L.length c, .int .i64 er]) ∧ w'.ownsRow w.heap.size 77 35 (.slice (some ⟨a, 0, none⟩) L.length c) L.length (posL L) ∧ Below w.heap.size w w'
def BenP (F : Nat → Nat) (N : Nat) (a0 : Option Addr) (cap : Nat) (n : Nat) : Prop := ∀ (p : Int) (R : Rf) (w : World), 0 ≤ p → (p + 1) * ((4 ^ n : Nat) : Int) ≤ 4096 → R.1 < 4294967296 → (IsBlks w a0 N fun i => blkAt F i) → Calls Tryz.prog 59 #[.slice a0 N cap, .agg (poC (n : Int) p R)] w (BnP w (bnR F N n p R).1 (bnR F N n p R).2)
set_option maxRecDepth 100000 in
set_option maxHeartbeats 8000000 in
theorem rben_none (sl : Value) (l p : Int) (w : World) : Calls Tryz.prog 59 #[sl, .agg (poC l p rf0)] w (BnP w [] 0) := by
  obtain ⟨i0, hi, hz0, hz1, hz2⟩ := info_parts rinfoPo
  have t1 : Blk (w.alloc (.cells (poC l p rf0) 77)) w.heap.size 77 (poC l p rf0) := Blk.new _ _ _
  have HRP : Hid ((w.alloc (.cells (poC l p rf0) 77)).rangeAt w.heap.size 2 ((List.range 33).map (rfF rf0.1 rf0.2))) := po_range t1
  have hb1 : Below w.heap.size w (w.alloc (.cells (poC l p rf0) 77)) := below_new1 _ _
  have hNn : Hid (∀ w, Calls Tryz.prog 47 #[.agg (rfC rf0)] w fun e w' => e = .returned (.bool true) ∧ Below w.heap.size w w') := fun w => by
    have := rnone_any rf0 w
    rw [decide_eq_true rfl] at this
    exact this
  clear t1
  go_enter Tryz.func59, Tryz.ntmps59
  go_wp2_with (first
    | (refine wpList_load_blk (by rfl) 31 _ (by rfl) (w.heap.size) (2) 33 (rfF rf0.1 rf0.2) (by rfl) _ (by exact HRP.out) Tryz.underlying31 rfl rsizeRef ?_; simp only [Act.put, sgPHTrAll])
    | fail)
  generalize (w.alloc (.cells (poC l p rf0) 77)) = w1 at *
  refine (hNn.out w1).mono ?_
  rintro x w2 ⟨rfl, hb2⟩
  have hb12 := hb1.trans (hb2.mono hb1.size)
  have HE : Hid (BnP w [] 0 (.returned (.tuple #[.slice (some ⟨w2.heap.size, 0, none⟩) 0 0, .int .i64 0])) (w2.alloc (.cells #[] 77))) := ⟨_, _, rfl, kown_empty (Blk.new _ _ _) hb12.size, hb12.trans ((below_new1 _ _).mono hb12.size)⟩
  clear hb1 hb2 hb12 hNn
  go_wp2_with fail
  go_ret2
  exact HE.out
set_option maxRecDepth 100000 in
set_option maxHeartbeats 16000000 in
theorem rben_lvl (hF : ∀ a, F a < 256) (hN : N ≤ 8192) (a0 : Option Addr) (cap : Nat) (n : Nat) (hn : n ≤ 6) (IH : ∀ n', n = n' + 1 → BenP F N a0 cap n') : BenP F N a0 cap n := by
  intro p R w hp0 hp1 hR H
  by_cases hR0 : R = rf0
  · subst hR0
    have e : bnR F N n p rf0 = ([], 0) := by cases n <;> simp [bnR]
    rw [e]
    exact rben_none _ _ _ w
  obtain ⟨i0, hi, hz0, hz1, hz2⟩ := info_parts rinfoPo
  have hz := rzero_bk
  have hzk := rzero_kd
  have t1 : Blk (w.alloc (.cells (poC (n : Int) p R) 77)) w.heap.size 77 (poC (n : Int) p R) := Blk.new _ _ _
  have HRP : Hid ((w.alloc (.cells (poC (n : Int) p R) 77)).rangeAt w.heap.size 2 ((List.range 33).map (rfF R.1 R.2))) := po_range t1
  have hb1 : Below w.heap.size w (w.alloc (.cells (poC (n : Int) p R) 77)) := below_new1 _ _
  have hNn : Hid (∀ w, Calls Tryz.prog 47 #[.agg (rfC R)] w fun e w' => e = .returned (.bool false) ∧ Below w.heap.size w w') := fun w => by
    have := rnone_any R w
    rw [decide_eq_false hR0] at this
    exact this
  have HIH : Hid (∀ n', n = n' + 1 → BenP F N a0 cap n') := IH
  have HP : Hid (n ≤ 6 ∧ 0 ≤ p ∧ (p + 1) * ((4 ^ n : Nat) : Int) ≤ 4096 ∧ R.1 < 4294967296 ∧ R ≠ rf0 ∧ N ≤ 8192 ∧ (∀ a, F a < 256) ∧ IsBlks w a0 N fun i => blkAt F i) := ⟨hn, hp0, hp1, hR, hR0, hN, hF, H⟩
  clear H IH hn hp0 hp1 hR hR0 hN hF
  go_enter Tryz.func59, Tryz.ntmps59
  go_wp2_with (first
    | (refine wpList_load_blk (by rfl) 31 _ (by rfl) (w.heap.size) (2) 33 (rfF R.1 R.2) (by rfl) _ (by exact HRP.out) Tryz.underlying31 rfl rsizeRef ?_; simp only [Act.put, sgPHTrAll])
    | fail)
  clear HRP
  generalize (w.alloc (.cells (poC (n : Int) p R) 77)) = w1 at *
  refine (hNn.out w1).mono ?_
  rintro x w2 ⟨rfl, hb2⟩
  have hb12 := hb1.trans (hb2.mono hb1.size)
  have t2 := t1.below hb2 t1.lt
  have hb3 : Below w2.heap.size w2 (w2.alloc (.cells (poC (n : Int) p R) 77)) := below_new1 _ _
  have t3 := t2.below hb3 t2.lt
  have z3 : (w2.alloc (.cells (poC (n : Int) p R) 77)).cell? ⟨w.heap.size, 0, none⟩ = some (.int .i64 (n : Int)) := (t3.cell 0).trans (va_at (poF (n : Int) p R) (by decide))
  have HB3 : Hid (Below w.heap.size w (w2.alloc (.cells (poC (n : Int) p R) 77)) ∧ w.heap.size < w2.heap.size) := ⟨hb12.trans (hb3.mono hb12.size), t2.lt⟩
  have HO3 : Hid ((w2.alloc (.cells (poC (n : Int) p R) 77)).ownsRow w.heap.size 77 35 (.slice (some ⟨w2.heap.size, 0, none⟩) 1 1) 1 (poC (n : Int) p R).toList) := own_one w2 _ _ _ _ (poC_size _ _ _) hb12.size
  have HR3 : Hid ((w2.alloc (.cells (poC (n : Int) p R) 77)).rangeAt w.heap.size 2 ((List.range 33).map (rfF R.1 R.2))) := po_range t3
  clear hb1 hb2 hb12 hb3 t1 hNn
  go_upto_region 4 with (first
    | (refine wpList_load_rowg (by rfl) 77 _ (by rfl) (w.heap.size) (by rfl) 77 (poC (n : Int) p R) (0, 0) _ (by exact t2) Tryz.underlying77 (by rfl) (rsizePo.trans (by rw [poC_size])) ?_; simp only [Act.put, sgPHTrAll])
    | (refine wpList_build1 (by rfl) 71 77 _ (by rfl) (poC (n : Int) p R) (by rfl) i0 _ 35 Tryz.underlying71 hi hz0 hz1 (poC_size _ _ _) (by decide) (by decide) ?_; simp only [Act.put, sgPHTrAll])
    | fail)
  clear t2
  generalize (w2.alloc (.cells (poC (n : Int) p R) 77)) = w3 at *
  generalize w2.heap.size = ob at *
  cases n with
  | zero =>
    have HE : Hid (bnR F N 0 p R = ([(0, p, R)], 0)) := if_neg HP.out.2.2.2.2.1
    go_wp2_with fail
    go_ret2
    rw [HE.out]
    refine ⟨ob, 1, rfl, ?_, HB3.out.1⟩
    have := HO3.out
    simpa [posL] using this
  | succ n =>
    have hnz : ¬ ((n + 1 : Nat) : Int) = 0 := by omega
    obtain ⟨ne, hne⟩ : ∃ ne, nodE F N ((n + 1 : Nat) : Int) R = ne := ⟨_, rfl⟩
    have HNE : Hid (nodE F N ((n + 1 : Nat) : Int) R = ne) := hne
    have HKd : Hid (∀ w : World, (IsBlks w a0 N fun i => blkAt F i) → Calls Tryz.prog 50 #[.slice a0 N cap, .int .i64 ((n + 1 : Nat) : Int), .agg (rfC R)] w fun x w' => x = .returned (.tuple #[.agg (kdC (if ne = 0 then decK (gotF F N R) else fun _ => rf0)), .agg (va 256 (iv .u8 (gotF F N R))), .int .i64 ne]) ∧ Below w.heap.size w w') := fun w h1 => rkids_any _ R HP.out.2.2.2.1 HP.out.2.2.2.2.2.2.1 ne hne a0 cap HP.out.2.2.2.2.2.1 w h1
    clear hne
    generalize hl : ((n + 1 : Nat) : Int) = l at *
    go_wp2_with (first
      | (refine wpList_load_blk (by rfl) 31 _ (by rfl) (w.heap.size) (2) 33 (rfF R.1 R.2) (by rfl) _ (by exact HR3.out) Tryz.underlying31 rfl rsizeRef ?_; simp only [Act.put, sgPHTrAll])
      | fail)
    refine (HKd.out w3 (HP.out.2.2.2.2.2.2.2.below HB3.out.1)).mono ?_
    rintro x w4 ⟨rfl, hb4⟩
    obtain ⟨f, hf⟩ : ∃ f, gotF F N R = f := ⟨_, rfl⟩
    obtain ⟨K, hK⟩ : ∃ K, (if ne = 0 then decK f else fun _ => rf0) = K := ⟨_, rfl⟩
    rw [hf, hK]
    have HKK : Hid (ne = 0 → decK (gotF F N R) = K) := fun h0 => by rw [hf, ← hK, if_pos h0]
    have q0 : Blk ((w4.alloc (.cells (kdC fun _ => rf0) 113)).alloc (.cells (va 256 (iv .u8 fun _ => 0)) 37)) w4.heap.size 113 (kdC fun _ => rf0) := (Blk.new _ _ _).alloc _
    have y0 : Blk ((w4.alloc (.cells (kdC fun _ => rf0) 113)).alloc (.cells (va 256 (iv .u8 fun _ => 0)) 37)) (w4.heap.size + 1) 37 (va 256 (iv .u8 fun _ => 0)) := Blk.new1 _ _ _ _
    have y1 := y0.other (kdC K) (show w4.heap.size + 1 ≠ w4.heap.size by omega)
    have x7 : Blk ((((w4.alloc (.cells (kdC fun _ => rf0) 113)).alloc (.cells (va 256 (iv .u8 fun _ => 0)) 37)).setRow w4.heap.size (kdC K)).setRow (w4.heap.size + 1) (va 256 (iv .u8 f))) w4.heap.size 113 (kdC K) := (q0.set _).other _ (by omega)
    have hb7 : Below w4.heap.size w4 ((((w4.alloc (.cells (kdC fun _ => rf0) 113)).alloc (.cells (va 256 (iv .u8 fun _ => 0)) 37)).setRow w4.heap.size (kdC K)).setRow (w4.heap.size + 1) (va 256 (iv .u8 f))) := below_setRow (below_setRow (below_new2 _ _ _) (Nat.le_refl _) _) (by omega) _
    have hb37 := hb4.trans (hb7.mono hb4.size)
    have t7 := t3.below hb37 t3.lt
    have HO7 : Hid (((((w4.alloc (.cells (kdC fun _ => rf0) 113)).alloc (.cells (va 256 (iv .u8 fun _ => 0)) 37)).setRow w4.heap.size (kdC K)).setRow (w4.heap.size + 1) (va 256 (iv .u8 f))).ownsRow w.heap.size 77 35 (.slice (some ⟨ob, 0, none⟩) 1 1) 1 (poC l p R).toList) := kown_below HO3.out hb37
    have HB7 : Hid (Below w.heap.size w ((((w4.alloc (.cells (kdC fun _ => rf0) 113)).alloc (.cells (va 256 (iv .u8 fun _ => 0)) 37)).setRow w4.heap.size (kdC K)).setRow (w4.heap.size + 1) (va 256 (iv .u8 f)))) := HB3.out.1.trans (hb37.mono HB3.out.1.size)
    have HOB : Hid (w.heap.size < ob ∧ ob < w4.heap.size) := ⟨HB3.out.2, Nat.lt_of_lt_of_le (HO3.out.lt ob rfl).2 hb4.size⟩
    clear hb4 hb7 hb37 t3 z3 HO3 HR3 HB3 HKd hK hf
    go_upto_region 7 with (first
      | (refine wpList_store_row (by rfl) 113 _ _ (by rfl) (w4.heap.size) (kdC K) (by rfl) (by rfl) 113 (_) (by exact q0) (rsizeKd.trans (by rw [kdC_size])) (by simp only [kdC_size]) (kdC_all _) ?_; simp only [Act.put, sgPHTrAll])
      | (refine wpList_store_row (by rfl) 37 _ _ (by rfl) (w4.heap.size + 1) (va 256 (iv .u8 f)) (by rfl) (by rfl) 37 (_) (by exact y1) (rsizeBk.trans (by rw [va_size])) (by simp only [va_size]) (iv_one _ _ _) ?_; simp only [Act.put, sgPHTrAll])
      | fail)
    clear q0 y0 y1
    generalize ((((w4.alloc (.cells (kdC fun _ => rf0) 113)).alloc (.cells (va 256 (iv .u8 fun _ => 0)) 37)).setRow w4.heap.size (kdC K)).setRow (w4.heap.size + 1) (va 256 (iv .u8 f))) = w7 at *
    generalize w4.heap.size = kb at *
    by_cases hn0 : ne = 0
    · subst hn0
      have HW : Hid (bnR F N (n + 1) p R = bnK (fun k : Nat => bnR F N n (4 * p + (k : Int)) (K k)) 4 0 [(n + 1, p, R)]) := by
        show _ = _
        have h2 := HP.out.2.2.2.2.1
        have h3 := HNE.out
        have h4 := HKK.out rfl
        rw [← hl] at h3
        rw [bnR, if_neg h2, if_pos h3, h4]
      have HKL : Hid (∀ k, (K k).1 < 4294967296) := fun k => by
        rw [← HKK.out rfl]
        exact decK_lt _ _
      have HBk : Hid (∀ (k : Nat) (w : World), k < 4 → (IsBlks w a0 N fun i => blkAt F i) → Calls Tryz.prog 59 #[.slice a0 N cap, .agg (poC (l - 1) (4 * p + (k : Int)) (K k))] w (BnP w (bnR F N n (4 * p + (k : Int)) (K k)).1 (bnR F N n (4 * p + (k : Int)) (K k)).2)) := fun k w hk hw => by
        have h6 := HP.out
        have h9 : (4 ^ (n + 1) : Nat) = 4 ^ n * 4 := Nat.pow_succ _ _
        have ha := h6.2.2.1
        rw [h9] at ha
        have hpos : (1 : Int) ≤ ((4 ^ n : Nat) : Int) := by
          have := pow4_pos n
          omega
        have hb : (4 * p + (k : Int) + 1) * ((4 ^ n : Nat) : Int) ≤ 4096 := by
          push_cast at ha hpos ⊢
          generalize (4 : Int) ^ n = z at *
          have hc : (4 * p + (k : Int) + 1) * z ≤ (p * 4 + 4) * z := Int.mul_le_mul_of_nonneg_right (by omega) (by omega)
          have hd : (p + 1) * (z * 4) = (p * 4 + 4) * z := by
            rw [Int.mul_comm z 4, ← Int.mul_assoc, Int.add_mul, Int.one_mul]
          omega
        have := HIH.out n rfl (4 * p + (k : Int)) (K k) w (by omega) hb (HKL.out k) hw
        rw [show l - 1 = (n : Int) by omega]
        exact this
      have HPB : Hid (0 ≤ p ∧ p ≤ 4096 ∧ 0 ≤ l ∧ l ≤ 7) := by
        have h6 := HP.out
        have hpos : (1 : Int) ≤ ((4 ^ (n + 1) : Nat) : Int) := by
          have := pow4_pos (n + 1)
          omega
        have := Int.mul_le_mul_of_nonneg_left hpos (show 0 ≤ p + 1 by omega)
        exact ⟨by omega, by omega, by omega, by omega⟩
      have HLN : Hid (∀ k : Nat, (bnR F N n (4 * p + (k : Int)) (K k)).1.length ≤ cN n) := fun k => bnR_len F N n _ _
      have HCN : Hid (cN n ≤ 5461) := cN_le (by have := HP.out.1; omega)
      clear HIH HKK HNE hnz
      generalize hf9 : (fun k : Nat => bnR F N n (4 * p + (k : Int)) (K k)) = f9 at HW
      have HF9 : Hid (∀ k : Nat, bnR F N n (4 * p + (k : Int)) (K k) = f9 k) := fun k => congrFun hf9 k
      clear hf9
      go_upto_region 10 with fail
      go_loopw [6, 10] (fun v t wr => Hid (∃ (k : Nat) (acc : List Ps) (a cc : Nat), 1 ≤ acc.length ∧ k ≤ 4 ∧ t = .int .i64 (k : Int) ∧ v = .slice (some ⟨a, 0, none⟩) acc.length cc ∧ acc.length ≤ 1 + k * cN n ∧ bnK f9 (4 - k) k acc = bnR F N (n + 1) p R ∧ wr.ownsRow w.heap.size 77 35 (.slice (some ⟨a, 0, none⟩) acc.length cc) acc.length (posL acc) ∧ a ≠ w.heap.size ∧ a ≠ kb ∧ Blk wr w.heap.size 77 (poC l p R) ∧ Blk wr kb 113 (kdC K) ∧ Below w.heap.size w wr)) (fun _ t _ => 4 - (intOf t).toNat)
      case atStart =>
        refine ⟨0, [(n + 1, p, R)], ob, 1, Nat.le_refl _, by omega, rfl, rfl, by simp, HW.out.symm, ?_, by have := HOB.out; omega, by have := HOB.out; omega, t7, x7, HB7.out⟩
        have := HO7.out
        rw [← hl] at this
        simpa [posL] using this
      case round =>
        clear t7 x7 HO7 HB7
        obtain ⟨k, acc, a, cc, ha1, hk, rfl, rfl, hal, hre, hown, hne1, hne2, tr, kr, hb⟩ := Hid.out hrel
        clear hrel
        have HAL : Hid (acc.length ≤ 1 + k * cN n ∧ k ≤ 4 ∧ 1 ≤ acc.length) := ⟨hal, hk, ha1⟩
        have HRE : Hid (bnK f9 (4 - k) k acc = bnR F N (n + 1) p R) := hre
        have HOW : Hid (wr.ownsRow w.heap.size 77 35 (.slice (some ⟨a, 0, none⟩) acc.length cc) acc.length (posL acc) ∧ a ≠ w.heap.size ∧ a ≠ kb) := ⟨hown, hne1, hne2⟩
        have HBW : Hid (Below w.heap.size w wr) := hb
        obtain ⟨an, han⟩ : ∃ an, acc.length = an := ⟨_, rfl⟩
        have HAN : Hid (acc.length = an) := han
        rw [han]
        clear ha1 hal hre hown hne1 hne2 hb han
        by_cases hlt : k < 4
        · have hk4 : (k : Int) < 4 := by omega
          have hk0 : (0 : Int) ≤ (k : Int) := by omega
          have HLT : Hid (k < 4) := hlt
          have HBT : Hid (Tryz.prog.built 77 [(0, .int .i64 (l - 1)), (1, .int .i64 (4 * p + (k : Int))), (2, .agg (rfC (K k)))] = some (poC (l - 1) (4 * p + (k : Int)) (K k))) := rbuilt_po3 _ _ _
          have hS : Blk wr.drew w.heap.size 77 (poC l p R) ∧ Blk wr.drew kb 113 (kdC K) := ⟨tr, kr⟩
          have HKR : Hid (wr.drew.rangeAt kb (k * 33) ((List.range 33).map (rfF (K k).1 (K k).2))) := kd_range hS.2 k hlt
          have HIM : Hid (IsBlks wr.drew a0 N fun i => blkAt F i) := HP.out.2.2.2.2.2.2.2.below HBW.out.drew
          obtain ⟨hp1, hp2, hl1, hl2⟩ := HPB.out
          go_wp2_with fail
          refine wp_region_partsS (fun W => Blk W w.heap.size 77 (poC l p R) ∧ Blk W kb 113 (kdC K)) [([0, 7, 9, 10], 1, true), ([], 2, true), ([], 3, true), ([], 4, true), ([], 5, true), ([], 6, true), ([], 8, true), ([], 11, false), ([], 12, false), ([], 13, false)] [14, 15, 16, 17, 18] [] (by kernel_rfl) (by kernel_rfl) hS (partsI_yield ?_)
          simp only [sgLHTrAll]
          go_wp2_with fail
          refine ⟨rfl, _, .pointer (some ⟨w.heap.size, 0, none⟩), rfl, Or.inl ⟨by rfl, fun W hW => by go_simp⟩, partsI_yield ?_⟩
          simp only [Act.put, sgPHTrAll]
          simp only [sgLHTrAll]
          go_wp2_with fail
          refine ⟨rfl, _, .int .i64 l, rfl, Or.inl ⟨by rfl, fun W hW => by have hW1 : W.cell? ⟨w.heap.size, 0, none⟩ = some (.int .i64 l) := (hW.1.cell 0).trans (va_at _ (by decide)); go_simp⟩, partsI_yield ?_⟩
          simp only [Act.put, sgPHTrAll]
          simp only [sgLHTrAll]
          go_wp2_with fail
          refine ⟨rfl, _, .int .i64 (l - 1), rfl, Or.inl ⟨by rfl, fun W hW => by go_simp; rw [IntKind.wrap_i64]; omega⟩, partsI_yield ?_⟩
          simp only [Act.put, sgPHTrAll]
          simp only [sgLHTrAll]
          go_wp2_with fail
          refine ⟨rfl, _, .pointer (some ⟨w.heap.size, 1, none⟩), rfl, Or.inl ⟨by rfl, fun W hW => by go_simp⟩, partsI_yield ?_⟩
          simp only [Act.put, sgPHTrAll]
          simp only [sgLHTrAll]
          go_wp2_with fail
          refine ⟨rfl, _, .int .i64 p, rfl, Or.inl ⟨by rfl, fun W hW => by have hW1 : W.cell? ⟨w.heap.size, 1, none⟩ = some (.int .i64 p) := (hW.1.cell 1).trans (va_at _ (by decide)); go_simp⟩, partsI_yield ?_⟩
          simp only [Act.put, sgPHTrAll]
          simp only [sgLHTrAll]
          go_wp2_with fail
          refine ⟨rfl, _, .int .i64 (4 * p), rfl, Or.inl ⟨by rfl, fun W hW => by go_simp; rw [IntKind.wrap_i64]; omega⟩, partsI_yield ?_⟩
          simp only [Act.put, sgPHTrAll]
          simp only [sgLHTrAll]
          go_wp2_with fail
          refine ⟨rfl, _, .int .i64 (4 * p + (k : Int)), rfl, Or.inl ⟨by rfl, fun W hW => by go_simp; rw [IntKind.wrap_i64]; omega⟩, partsI_force ?_⟩
          simp only [Act.put, sgPHTrAll]
          simp only [sgLHTrAll]
          refine wpList_load_blk (by rfl) 31 _ (by rfl) (kb) (k * 33) 33 (rfF (K k).1 (K k).2) (by rfl) _ (by exact HKR.out) Tryz.underlying31 rfl rsizeRef ?_
          simp only [Act.put, sgPHTrAll]
          go_wp2_with fail
          refine ⟨rfl, hS, partsI_force ?_⟩
          simp only [sgLHTrAll]
          refine tr_build3 (by rfl) 77 0 1 2 _ _ _ (by rfl) (.int .i64 (l - 1)) (.int .i64 (4 * p + (k : Int))) (.agg (rfC (K k))) (by rfl) (by rfl) (by rfl) (poC (l - 1) (4 * p + (k : Int)) (K k)) (by exact HBT.out) ?_
          simp only [Act.put, sgPHTrAll]
          go_wp2_with fail
          refine ⟨rfl, hS, partsI_force ?_⟩
          simp only [sgLHTrAll]
          go_wp2_with fail
          refine (HBk.out k wr.drew hlt HIM.out).mono ?_
          rintro x w8 ⟨a8, c8, rfl, ho8, hb8⟩
          have HS8 := (⟨hS.1.below hb8 hS.1.lt, hS.2.below hb8 hS.2.lt⟩ : Blk w8 w.heap.size 77 (poC l p R) ∧ Blk w8 kb 113 (kdC K))
          go_wp2_with fail
          refine ⟨rfl, HS8, partsI_last ?_⟩
          simp only [sgLHTrAll]
          go_wp2_with fail
          refine ⟨rfl, ?_⟩
          have HB8 : Hid (Below w.heap.size w w8) := HBW.out.drew.trans (hb8.mono HBW.out.drew.size)
          rw [HF9.out k] at ho8 ⊢
          have HL8 : Hid ((f9 k).1.length ≤ cN n) := by
            have := HLN.out k
            rw [HF9.out k] at this
            exact this
          obtain ⟨L8, e8, hfk⟩ : ∃ L8 e8, f9 k = (L8, e8) := ⟨_, _, rfl⟩
          have HFK : Hid (f9 k = (L8, e8)) := hfk
          rw [hfk] at ho8 ⊢ HL8
          obtain ⟨m8, hm8⟩ : ∃ m8, L8.length = m8 := ⟨_, rfl⟩
          have HM8 : Hid (L8.length = m8 ∧ m8 ≤ cN n) := ⟨hm8, hm8 ▸ HL8.out⟩
          simp only
          simp only [hm8] at ho8 ⊢
          have HO8 : Hid (w8.ownsRow wr.drew.heap.size 77 35 (.slice (some ⟨a8, 0, none⟩) m8 c8) m8 (posL L8)) := ho8
          have HOA : Hid (w8.ownsRow w.heap.size 77 35 (.slice (some ⟨a, 0, none⟩) an cc) an (posL acc)) := by
            have := kown_below (w := wr.drew) (w' := w8) (v := .slice (some ⟨a, 0, none⟩) acc.length cc) (kown_kept HOW.out.1 fun z _ _ => rfl) hb8
            rw [HAN.out] at this
            exact this
          have hmm := HM8.out.2
          have hcc := HCN.out
          have haa : an ≤ 1 + k * cN n := HAN.out ▸ HAL.out.1
          have hkc : k * cN n ≤ 3 * cN n := Nat.mul_le_mul_right _ (by omega)
          have HBS : Hid (w.heap.size ≤ w8.heap.size) := HB8.out.size
          have HNW : Hid (∀ j u, (posL L8)[j]? = some u → w8.cell? ((⟨a8, 0, none⟩ : Addr).add j) = some u) := fun j u hu => by
            have hj := (List.getElem?_eq_some_iff.1 hu).1
            rw [posL_len, HM8.out.1] at hj
            rw [Addr.add_mid, Nat.zero_add, HO8.out.cellAt j (by omega)]
            exact hu
          have HL35 : Hid ((posL L8).length = m8 * 35) := by
            show _ = _
            rw [posL_len, HM8.out.1]
          have HONE : Hid (∀ u ∈ posL L8, u.oneCell' = true) := posL_one L8
          have HS9 : Hid (Blk w8 w.heap.size 77 (poC l p R) ∧ Blk w8 kb 113 (kdC K)) := HS8
          clear hb8 ho8 HL8 hfk hm8 HS8 hS tr kr HKR HBT
          have h1n : 1 ≤ an := HAN.out ▸ HAL.out.2.2
          have HAK : Hid (a ≠ w.heap.size ∧ a ≠ kb) := HOW.out.2
          have HRK : Hid ((if e8 = 0 then bnK f9 (4 - (k + 1)) (k + 1) (acc ++ L8) else (acc ++ L8, e8)) = bnR F N (n + 1) p R) := by
            have h1 := HRE.out
            rw [show 4 - k = (4 - (k + 1)) + 1 by omega] at h1
            unfold bnK at h1
            rw [HFK.out] at h1
            exact h1
          clear HRE HOW HBW
          by_cases h8 : e8 = 0
          · subst h8
            go_wp2_with (first
              | (at_builtin; refine wpList_append_own_at (by rfl) _ _ 71 (by rfl) w.heap.size 77 i0 (.agg (poC 0 0 rf0)) 35 56 Tryz.underlying71 hi hz0 hz1 hz2 (poC_size _ _ _) (by decide) _ an _ (by rfl) (by exact HOA.out) ⟨a8, 0, none⟩ m8 c8 (posL L8) (by rfl) (by exact HL35.out) (by exact HNW.out) (by exact HONE.out) (by unfold maxLen; omega) (by omega) (by exact HBS.out) (fun v2 U2 ho2 hg2 ha2 => ?_); obtain ⟨g2, k2, rfl, hlo2, hhi2⟩ := kown_form ho2 (by omega); simp only [Act.put, sgPHTrAll])
              | fail)
            have HN2 : Hid (an + m8 = (acc ++ L8).length) := by
              show _ = _
              rw [List.length_append, HAN.out, HM8.out.1]
            have hgb : Below w.heap.size w U2 := HB8.out.grown hg2 HBS.out (fun x hx => (HOA.out.lt x hx).1)
            have HO2 : Hid (U2.ownsRow w.heap.size 77 35 (.slice (some ⟨g2, 0, none⟩) (acc ++ L8).length k2) (acc ++ L8).length (posL (acc ++ L8))) := by
              rw [← HN2.out, posL_app]
              exact ho2
            have HK2 : Hid (g2 ≠ w.heap.size ∧ g2 ≠ kb) := by
              have h1 := HS9.out.1.lt
              have h2 := HS9.out.2.lt
              rcases ha2 with e | e
              · have e2 : some g2 = some a := e
                injection e2 with e2
                rw [e2]
                exact HAK.out
              · have e2 : some g2 = some w8.heap.size := e
                injection e2 with e2
                exact ⟨by omega, by omega⟩
            have HS2 : Hid (Blk U2 w.heap.size 77 (poC l p R) ∧ Blk U2 kb 113 (kdC K)) := ⟨gs_grown HS9.out.1 hg2 (fun q => HAK.out.1 (by injection q)), gs_grown HS9.out.2 hg2 (fun q => HAK.out.2 (by injection q))⟩
            have HGB : Hid (Below w.heap.size w U2) := hgb
            have HRL : Hid (bnK f9 (4 - (k + 1)) (k + 1) (acc ++ L8) = bnR F N (n + 1) p R) := by
              have := HRK.out
              rw [if_pos rfl] at this
              exact this
            have HLE : Hid (1 ≤ (acc ++ L8).length ∧ (acc ++ L8).length ≤ 1 + (k + 1) * cN n) := by
              have h1 := HN2.out
              have h2 : (k + 1) * cN n = k * cN n + cN n := Nat.succ_mul _ _
              exact ⟨by omega, by omega⟩
            clear hgb ho2 hg2 ha2 HRK HO8 HOA HS9
            go_roundw
            case rel => exact ⟨k + 1, acc ++ L8, g2, k2, HLE.out.1, HLT.out, by first | rfl | go_num | simp, by rw [HN2.out], HLE.out.2, HRL.out, HO2.out, HK2.out.1, HK2.out.2, HS2.out.1, HS2.out.2, HGB.out⟩
            case measure => simp [intOf]; have := HLT.out; omega
          · have HRL : Hid (bnR F N (n + 1) p R = (acc ++ L8, e8)) := by
              have := HRK.out
              rw [if_neg h8] at this
              exact this.symm
            have hne2 : (e8 != 0) = true := by simp [h8]
            have hne3 : decide (e8 = 0) = false := decide_eq_false h8
            clear HRK
            go_wp2_with (first
              | (at_builtin; refine wpList_append_own_at (by rfl) _ _ 71 (by rfl) w.heap.size 77 i0 (.agg (poC 0 0 rf0)) 35 56 Tryz.underlying71 hi hz0 hz1 hz2 (poC_size _ _ _) (by decide) _ an _ (by rfl) (by exact HOA.out) ⟨a8, 0, none⟩ m8 c8 (posL L8) (by rfl) (by exact HL35.out) (by exact HNW.out) (by exact HONE.out) (by unfold maxLen; omega) (by omega) (by exact HBS.out) (fun v2 U2 ho2 hg2 ha2 => ?_); obtain ⟨g2, k2, rfl, hlo2, hhi2⟩ := kown_form ho2 (by omega); simp only [Act.put, sgPHTrAll])
              | fail)
            have HN2 : Hid (an + m8 = (acc ++ L8).length) := by
              show _ = _
              rw [List.length_append, HAN.out, HM8.out.1]
            have hgb : Below w.heap.size w U2 := HB8.out.grown hg2 HBS.out (fun x hx => (HOA.out.lt x hx).1)
            have HO2 : Hid (U2.ownsRow w.heap.size 77 35 (.slice (some ⟨g2, 0, none⟩) (acc ++ L8).length k2) (acc ++ L8).length (posL (acc ++ L8))) := by
              rw [← HN2.out, posL_app]
              exact ho2
            have HGB : Hid (Below w.heap.size w U2) := hgb
            clear hgb ho2 hg2 ha2
            go_ret2
            rw [HRL.out]
            refine ⟨g2, k2, ?_, HO2.out, HGB.out⟩
            show Ending.returned (.tuple #[.slice (some ⟨g2, 0, none⟩) (an + m8) k2, .int .i64 e8]) = _
            rw [HN2.out]
        · obtain rfl : k = 4 := by omega
          have HRL : Hid (bnR F N (n + 1) p R = (acc, 0)) := HRE.out.symm
          have HO2 : Hid (wr.ownsRow w.heap.size 77 35 (.slice (some ⟨a, 0, none⟩) acc.length cc) acc.length (posL acc)) := HOW.out.1
          go_wp2_with fail
          go_ret2
          rw [HRL.out]
          refine ⟨a, cc, ?_, HO2.out, HBW.out⟩
          show Ending.returned (.tuple #[.slice (some ⟨a, 0, none⟩) an cc, .int .i64 0]) = _
          rw [HAN.out]
    · have HW : Hid (bnR F N (n + 1) p R = ([(n + 1, p, R)], ne)) := by
        show _ = _
        have h3 := HNE.out
        rw [← hl] at h3
        rw [bnR, if_neg HP.out.2.2.2.2.1, h3, if_neg hn0]
      have hne2 : (ne != 0) = true := by simp [hn0]
      have hne3 : decide (ne = 0) = false := decide_eq_false hn0
      go_wp2_with fail
      go_ret2
      rw [HW.out]
      refine ⟨ob, 1, rfl, ?_, HB7.out⟩
      have := HO7.out
      rw [← hl] at this
      simpa [posL] using this
theorem rben_any (hF : ∀ a, F a < 256) (hN : N ≤ 8192) (a0 : Option Addr) (cap : Nat) : ∀ (n : Nat), n ≤ 6 → BenP F N a0 cap n
  | 0, h => rben_lvl hF hN a0 cap 0 h fun n' e => by omega
  | n + 1, h => rben_lvl hF hN a0 cap (n + 1) h fun n' e => by
    obtain rfl : n = n' := by omega
    exact rben_any hF hN a0 cap n (by omega)
end
end Go.Proofs.YtjhabngibbmpbaaGreat

namespace Go.Proofs.YtjhabngibbmpbaaGreat
open Go Go.RowKit
set_option linter.unusedSimpArgs false
set_option linter.unusedVariables false
theorem infoPo : (Tryz.prog.info? 75).map (fun i => (i.zero, i.size, i.bytes)) = some (some (.agg (poC 0 0 rf0)), 35, 56) := by kernel_rfl
/-- the positions told so far -/
def PB (V : World) (bx Bm : Nat) (v : Value) (s : List Ps) : Prop := GS V bx 64 Bm 75 35 v s.length (posL s)
def QA (bx Bm : Nat) (s : List Ps) (v : Value) (V : World) : Prop := PB V bx Bm v s ∧ Bm ≤ V.heap.size
def dnA (s : List Ps) (l : Nat) (p : Int) (R : Rf) : List Ps × Bool := (s ++ [(l, p, R)], true)
theorem PB.own {V : World} {bx Bm : Nat} {s : List Ps} {qa : Option Addr} {n ka : Nat} (h : PB V bx Bm (.slice qa n ka) s) (hn : s.length = n) : V.ownsRow Bm 75 35 (.slice qa n ka) n (posL s) := by
  have := h.2.1
  rw [hn] at this
  exact this
set_option maxRecDepth 100000 in
set_option maxHeartbeats 16000000 in
theorem tall1_any {bx Bm : Nat} (s : List Ps) (v : Value) (V : World) (l : Nat) (p : Int) (R : Rf) (hs : s.length < 34359738000) (H : QA bx Bm s v V) : Calls Tryz.prog 56 #[.agg (poC (l : Int) p R), .pointer (some ⟨bx, 0, none⟩)] V fun e w' => e = .returned (.bool true) ∧ ∃ v', QA bx Bm (s ++ [(l, p, R)]) v' w' ∧ Turns (gft bx v) V w' ∧ ∀ b, gft bx v' b → gft bx v b ∨ V.heap.size ≤ b := by
  obtain ⟨i0, hi0, hz0, hz1, hz2⟩ := info_parts infoPo
  have HQ : Hid (PB V bx Bm v s ∧ Bm ≤ V.heap.size) := H
  obtain ⟨n, hn⟩ : ∃ n, s.length = n := ⟨_, rfl⟩
  have HN : Hid (s.length = n) := hn
  have hll : n < 34359738000 := hn ▸ hs
  clear hs H hn
  go_enter Tryz.func56, Tryz.ntmps56
  obtain ⟨qa, ka, hv⟩ := kown_slice HQ.out.1.2.1
  rw [HN.out] at hv
  subst hv
  generalize hc : poC (l : Int) p R = C
  have HC : Hid (C = poC (l : Int) p R) := hc.symm
  have hcs : C.size = 35 := by rw [← hc]; exact poC_size _ _ _
  clear hc
  have b1 : Blk (V.alloc (.cells C 75)) V.heap.size 75 C := Blk.new _ _ _
  have hb1 : Below V.heap.size V (V.alloc (.cells C 75)) := below_new1 V _
  have hb2 : Below V.heap.size V ((V.alloc (.cells C 75)).alloc (.cells C 75)) := hb1.trans ((below_new1 _ _).mono hb1.size)
  have HA1 : Hid (PB (V.alloc (.cells C 75)) bx Bm (.slice qa n ka) s) := HQ.out.1.below hb1
  have HA2 : Hid (PB ((V.alloc (.cells C 75)).alloc (.cells C 75)) bx Bm (.slice qa n ka) s) := HQ.out.1.below hb2
  have HB2 : Hid (Below V.heap.size V ((V.alloc (.cells C 75)).alloc (.cells C 75))) := hb2
  have c1 : (V.alloc (.cells C 75)).cell? ⟨bx, 0, none⟩ = some (.slice qa n ka) := (HA1.out.1.cell 0).trans rfl
  have HO2 : Hid (((V.alloc (.cells C 75)).alloc (.cells C 75)).ownsRow Bm 75 35 (.slice qa n ka) n (posL s)) := HA2.out.own HN.out
  have HNEW : Hid (∀ j u, C.toList[j]? = some u → ((V.alloc (.cells C 75)).alloc (.cells C 75)).cell? ((⟨(V.alloc (.cells C 75)).heap.size, 0, none⟩ : Addr).add j) = some u) := cells_new _ _ _
  have HMEM : Hid (∀ u ∈ C.toList, u.oneCell' = true) := by
    show ∀ u ∈ C.toList, _
    rw [HC.out]
    exact arr_memT (poC_all _ _ _)
  have HLEN : Hid (C.toList.length = 1 * 35) := by
    show _ = _
    rw [Array.length_toList, hcs]
  have HS2 : Hid (Bm ≤ ((V.alloc (.cells C 75)).alloc (.cells C 75)).heap.size) := Nat.le_trans HQ.out.2 hb2.size
  clear hb1 hb2
  go_wp2_with (first
    | (refine wpList_load_rowg (by rfl) 75 _ (by rfl) (V.heap.size) (by rfl) 75 C (0, 0) _ (by exact b1) Tryz.underlying75 (by rfl) (sizePo.trans (by rw [hcs])) ?_; simp only [Act.put, sgPHTrAll])
    | (refine wpList_build1 (by rfl) 64 75 _ (by rfl) C (by rfl) i0 _ 35 Tryz.underlying64 hi0 hz0 hz1 hcs (by decide) (by decide) ?_; simp only [Act.put, sgPHTrAll])
    | (at_builtin; refine wpList_append_own_at (by rfl) _ _ 64 (by rfl) Bm 75 i0 (.agg (poC 0 0 rf0)) 35 56 Tryz.underlying64 hi0 hz0 hz1 hz2 (poC_size _ _ _) (by decide) _ n _ (by rfl) (by exact HO2.out) ⟨(V.alloc (.cells C 75)).heap.size, 0, none⟩ 1 1 C.toList (by rfl) HLEN.out (by exact HNEW.out) (by exact HMEM.out) (by unfold maxLen; omega) (by omega) (by exact HS2.out) (fun v2 U2 ho2 hg2 ha2 => ?_); obtain ⟨q2, k2, rfl⟩ := kown_slice ho2; have hbU : Blk U2 bx 64 #[.slice qa n ka] := gs_grown HA2.out.1 hg2 HA2.out.2.2; have cU := (hbU.cell 0).trans rfl; have fU := hbU.frozen 0; simp only [Act.put, sgPHTrAll])
    | fail)
  go_ret
  have hg : GS ((V.alloc (.cells C 75)).alloc (.cells C 75)) bx 64 Bm 75 35 (.slice qa n ka) n (posL s) := ⟨HA2.out.1, HO2.out, HA2.out.2.2⟩
  obtain ⟨h1, h2, h3⟩ := hg.grown HB2.out HQ.out.1.1.lt ho2 hg2 ha2
  refine ⟨rfl, _, ⟨?_, Nat.le_trans HQ.out.2 h2.size⟩, h2, h3⟩
  show GS _ _ _ _ _ _ _ _ _
  rw [List.length_append, HN.out, posL_snoc, ← HC.out]
  exact h1
theorem tall1_dk (bx Bm : Nat) : DK 56 #[.pointer (some ⟨bx, 0, none⟩)] (gft bx) (QA bx Bm) List.length dnA where
  call := fun s z V l p R hl hp0 hp1 hR hs H => (tall1_any s z V l p R hs H).mono fun e w' ⟨e1, v', h1, h2, h3⟩ => ⟨e1, v', h1, h2, h3, by simp [dnA]⟩
  keep := fun s z V V' T h ht hT => ⟨h.1.keep ht hT, Nat.le_trans h.2 ht.size⟩
  lt := fun s z V b h hb => h.1.lt b hb
end Go.Proofs.YtjhabngibbmpbaaGreat

namespace Go.Proofs.YtjhabngibbmpbaaGreat
open Go Go.RowKit
set_option linter.unusedSimpArgs false
set_option linter.unusedVariables false
section
variable {F : Nat → Nat} {N : Nat}
set_option maxRecDepth 100000 in
set_option maxHeartbeats 8000000 in
theorem rall9_any (hF : ∀ a, F a < 256) (hN : N ≤ 8192) (a0 : Option Addr) (cap : Nat) (n : Nat) (hn : n ≤ 6) (R : Rf) (hR : R.1 < 4294967296) (w : World) (H : IsBlks w a0 N fun i => blkAt F i) : Calls Tryz.prog 27 #[.slice a0 N cap, .agg (trC (n : Int) R)] w (BnP w (bnR F N n 0 R).1 (bnR F N n 0 R).2) := by
  have t1 : Blk (w.alloc (.cells (trC (n : Int) R) 33)) w.heap.size 33 (trC (n : Int) R) := Blk.new _ _ _
  have hb1 : Below w.heap.size w (w.alloc (.cells (trC (n : Int) R) 33)) := below_new1 _ _
  have HR1 : Hid ((w.alloc (.cells (trC (n : Int) R) 33)).rangeAt w.heap.size 1 ((List.range 33).map (rfF R.1 R.2))) := tr_range t1
  have z1 : (w.alloc (.cells (trC (n : Int) R) 33)).cell? ⟨w.heap.size, 0, none⟩ = some (.int .i64 (n : Int)) := (t1.cell 0).trans (va_at (trF (n : Int) R) (by decide))
  have HB : Hid (Tryz.prog.built 77 [(0, .int .i64 (n : Int)), (1, .int .i64 0), (2, .agg (rfC R))] = some (poC (n : Int) 0 R)) := rbuilt_po3 _ _ _
  have HBn : Hid (Calls Tryz.prog 59 #[.slice a0 N cap, .agg (poC (n : Int) 0 R)] (w.alloc (.cells (trC (n : Int) R) 33)) (BnP (w.alloc (.cells (trC (n : Int) R) 33)) (bnR F N n 0 R).1 (bnR F N n 0 R).2)) := rben_any hF hN a0 cap n hn 0 R _ (Int.le_refl _) (by
    have := pow4_le n hn
    simp only [Int.zero_add, Int.one_mul]
    omega) hR (H.below hb1)
  have HB1 : Hid (Below w.heap.size w (w.alloc (.cells (trC (n : Int) R) 33))) := hb1
  clear hb1 H hR hn hF hN
  generalize bnR F N n 0 R = bv at *
  obtain ⟨L, er⟩ := bv
  go_enter Tryz.func27, Tryz.ntmps27
  go_wp2_with (first
    | (refine wpList_load_blk (by rfl) 31 _ (by rfl) (w.heap.size) (1) 33 (rfF R.1 R.2) (by rfl) _ (by exact HR1.out) Tryz.underlying31 rfl rsizeRef ?_; simp only [Act.put, sgPHTrAll])
    | (refine tr_build3 (by rfl) 77 0 1 2 _ _ _ (by rfl) (.int .i64 (n : Int)) (.int .i64 0) (.agg (rfC R)) (by rfl) (by rfl) (by rfl) (poC (n : Int) 0 R) (by exact HB.out) ?_; simp only [Act.put, sgPHTrAll])
    | fail)
  refine HBn.out.mono ?_
  rintro e w2 ⟨a, c, rfl, ho, hb⟩
  have HE : Hid (BnP w L er (.returned (.tuple #[.slice (some ⟨a, 0, none⟩) L.length c, .int .i64 er])) w2) := ⟨a, c, rfl, kown_mono ho HB1.out.size, HB1.out.trans (hb.mono HB1.out.size)⟩
  clear ho hb
  go_wp2_with fail
  go_ret2
  exact HE.out
end
end Go.Proofs.YtjhabngibbmpbaaGreat

namespace Go.Proofs.YtjhabngibbmpbaaGreat
open Go Go.RowKit
set_option linter.unusedSimpArgs false
set_option linter.unusedVariables false
theorem po_lvl {w : World} {b o : Nat} {l p : Int} {R : Rf} (h : w.rangeAt b o ((List.range 35).map (poF l p R))) : w.cell? ⟨b, o, none⟩ = some (.int .i64 l) := by
  have := h 0 (poF l p R 0) (by simp)
  simpa [poF] using this
theorem po_plc {w : World} {b o : Nat} {l p : Int} {R : Rf} (h : w.rangeAt b o ((List.range 35).map (poF l p R))) : w.cell? ⟨b, o + 1, none⟩ = some (.int .i64 p) := by
  have := h 1 (poF l p R 1) (by simp)
  simpa [poF] using this
theorem po_ref {w : World} {b o : Nat} {l p : Int} {R : Rf} (h : w.rangeAt b o ((List.range 35).map (poF l p R))) : w.rangeAt b (o + 2) ((List.range 33).map (rfF R.1 R.2)) := fun k v hv => by
  have hk : k < 33 := by
    have := (List.getElem?_eq_some_iff.1 hv).1
    simpa using this
  have h1 := h (2 + k) (poF l p R (2 + k)) (by rw [List.getElem?_map, List.getElem?_range (show 2 + k < 35 by omega)]; rfl)
  rw [← Nat.add_assoc] at h1
  rw [h1]
  have e : poF l p R (2 + k) = rfF R.1 R.2 k := by
    unfold poF
    rw [if_neg (show ¬ 2 + k = 0 by omega), if_neg (show ¬ 2 + k = 1 by omega), show 2 + k - 2 = k by omega]
  rw [e, ← hv]
  simp [hk]
/-- an own slice of positions, element by element -/
theorem own_isps {w : World} {B e n c : Nat} {a : Option Addr} {L : List Ps} (h : w.ownsRow B e 35 (.slice a n c) n (posL L)) (hn : L.length = n) (j : Nat) (x : Ps) (hx : L[j]? = some x) : ∃ b, a = some ⟨b, 0, none⟩ ∧ b < w.heap.size ∧ w.rangeAt b (j * 35) ((List.range 35).map (poF (x.1 : Int) x.2.1 x.2.2)) := by
  have hj := (List.getElem?_eq_some_iff.1 hx).1
  rcases h.2 with ⟨_, h0⟩ | ⟨g, cap, cur, hv, hb, hg, hcap, _, hsz, htake⟩
  · omega
  · injection hv with h1 h2 h3
    refine ⟨g, h1, (Array.getElem?_eq_some_iff.1 hg).1, fun k u hu => ?_⟩
    have hk : k < 35 := by
      have := (List.getElem?_eq_some_iff.1 hu).1
      simpa using this
    rw [h1] at h
    rw [h.cellAt (j * 35 + k) (by omega), ← hu]
    clear h htake hsz hg hu hb hcap h1 h2 h3 hn hj
    induction L generalizing j with
    | nil => simp at hx
    | cons y L ih =>
      show ((poC (y.1 : Int) y.2.1 y.2.2).toList ++ posL L)[j * 35 + k]? = _
      cases j with
      | zero =>
        rw [List.getElem?_append_left (by rw [poC_list]; omega)]
        obtain rfl : y = x := by simpa using hx
        unfold poC
        rw [va_toList]
        simp
      | succ j =>
        rw [List.getElem?_append_right (by rw [poC_list]; omega), poC_list, show (j + 1) * 35 + k - 35 = j * 35 + k by omega]
        exact ih j (by simpa using hx)
end Go.Proofs.YtjhabngibbmpbaaGreat

namespace Go.Proofs.YtjhabngibbmpbaaGreat
open Go Go.RowKit
set_option linter.unusedSimpArgs false
set_option linter.unusedVariables false
section
variable {F : Nat → Nat} {N : Nat} {σ : Type}
theorem kids_fold {gf : σ → Ps → σ} {f : Bool × σ → Nat → (Bool × σ) × Int} {g : Nat → List Ps × Int} (h : ∀ s k, f (true, s) k = ((true, (g k).1.foldl gf s), (g k).2)) : ∀ (m k : Nat) (s : σ) (acc : List Ps), kidsR f m k (true, acc.foldl gf s) = ((true, (bnK g m k acc).1.foldl gf s), (bnK g m k acc).2)
  | 0, k, s, acc => rfl
  | m + 1, k, s, acc => by
    unfold kidsR bnK
    rw [h]
    by_cases h0 : (g k).2 = 0
    · simp only [if_pos h0]
      rw [← List.foldl_append]
      exact kids_fold h m (k + 1) s (acc ++ (g k).1)
    · simp only [if_neg h0]
      rw [← List.foldl_append]
/-- what a function does that never says that it is enough -/
theorem wlk_fold {gf : σ → Ps → σ} {dn : σ → Nat → Int → Rf → σ × Bool} (hd : ∀ s l p R, dn s l p R = (gf s (l, p, R), true)) : ∀ (n : Nat) (s : σ) (p : Int) (R : Rf), wlkR F N (stE dn) n (true, s) p R = ((true, (bnR F N n p R).1.foldl gf s), (bnR F N n p R).2)
  | 0, s, p, R => by
    unfold wlkR bnR
    by_cases h0 : R = rf0
    · simp [h0]
    · simp [h0, stE, hd]
  | n + 1, s, p, R => by
    unfold wlkR bnR
    by_cases h0 : R = rf0
    · simp [h0]
    · rw [if_neg h0, if_neg h0]
      have e : stE dn (true, s) (n + 1) p R = ((true, gf s (n + 1, p, R)), true, 0) := by
        unfold stE
        simp only [if_true, hd]
      rw [e, if_pos ⟨rfl, rfl⟩]
      by_cases h1 : nodE F N ((n + 1 : Nat) : Int) R = 0
      · rw [if_pos h1, if_pos h1]
        exact kids_fold (fun s k => by rw [wlk_fold hd n s, Int.mul_comm]) 4 0 s [(n + 1, p, R)]
      · rw [if_neg h1, if_neg h1]
        rfl
/-- leaves and nodes counted; the last leaf; the greatest one -/
def cntG (s : Nat × Nat) (x : Ps) : Nat × Nat := if x.1 = 0 then (s.1 + 1, s.2) else (s.1, s.2 + 1)
def lstG (s : Int) (x : Ps) : Int := if x.1 = 0 then x.2.1 else s
def maxG (s : Int) (x : Ps) : Int := if x.1 = 0 then max s x.2.1 else s
theorem cnt_sum : ∀ (l : List Ps) (s : Nat × Nat), (l.foldl cntG s).1 + (l.foldl cntG s).2 = s.1 + s.2 + l.length
  | [], s => rfl
  | x :: l, s => by
    rw [List.foldl_cons, cnt_sum l, List.length_cons]
    unfold cntG
    split <;> simp only <;> omega
theorem bnK_last {g : Nat → List Ps × Int} {z : Int} {p : Int} (hz : 0 ≤ z) (h : ∀ (k : Nat) (s : Int), s < (4 * p + (k : Int)) * z → (g k).1.foldl lstG s = (g k).1.foldl maxG s ∧ (g k).1.foldl lstG s < (4 * p + (k : Int) + 1) * z) : ∀ (m k : Nat) (acc : List Ps) (s : Int), acc.foldl lstG s = acc.foldl maxG s → acc.foldl lstG s < (4 * p + (k : Int)) * z → (bnK g m k acc).1.foldl lstG s = (bnK g m k acc).1.foldl maxG s ∧ (bnK g m k acc).1.foldl lstG s < (4 * p + ((k + m : Nat) : Int)) * z
  | 0, k, acc, s, h1, h2 => ⟨h1, h2⟩
  | m + 1, k, acc, s, h1, h2 => by
    have h3 := h k _ h2
    have e1 : (acc ++ (g k).1).foldl lstG s = (acc ++ (g k).1).foldl maxG s := by
      rw [List.foldl_append, List.foldl_append, ← h1]
      exact h3.1
    have e2 : (acc ++ (g k).1).foldl lstG s < (4 * p + ((k + 1 : Nat) : Int)) * z := by
      rw [List.foldl_append]
      rw [show (4 * p + ((k + 1 : Nat) : Int)) = 4 * p + (k : Int) + 1 by omega]
      exact h3.2
    unfold bnK
    split
    · have := bnK_last hz h m (k + 1) _ s e1 e2
      rw [show k + 1 + m = k + (m + 1) by omega] at this
      exact this
    · refine ⟨e1, Int.lt_of_lt_of_le e2 ?_⟩
      exact Int.mul_le_mul_of_nonneg_right (by omega) hz
theorem bnR_last : ∀ (n : Nat) (p : Int) (R : Rf) (s : Int), s < p * ((4 ^ n : Nat) : Int) → (bnR F N n p R).1.foldl lstG s = (bnR F N n p R).1.foldl maxG s ∧ (bnR F N n p R).1.foldl lstG s < (p + 1) * ((4 ^ n : Nat) : Int)
  | 0, p, R, s, h => by
    simp only [Nat.pow_zero, Int.ofNat_one, Int.mul_one] at h ⊢
    unfold bnR
    split
    · exact ⟨rfl, by simp; omega⟩
    · simp only [List.foldl_cons, List.foldl_nil, lstG, maxG, if_true]
      exact ⟨by omega, by omega⟩
  | n + 1, p, R, s, h => by
    have hz : (0 : Int) ≤ ((4 ^ n : Nat) : Int) := Int.natCast_nonneg _
    have e4 : ∀ q : Int, q * ((4 ^ (n + 1) : Nat) : Int) = (4 * q) * ((4 ^ n : Nat) : Int) := fun q => by
      rw [Nat.pow_succ, Int.natCast_mul, Int.mul_comm ((4 ^ n : Nat) : Int), ← Int.mul_assoc, Int.mul_comm q]
      rfl
    rw [e4] at h ⊢
    have hle : (4 * p) * ((4 ^ n : Nat) : Int) ≤ (4 * (p + 1)) * ((4 ^ n : Nat) : Int) := Int.mul_le_mul_of_nonneg_right (by omega) hz
    unfold bnR
    split
    · exact ⟨rfl, by simp only [List.foldl_nil]; omega⟩
    · split
      · have := bnK_last (g := fun k : Nat => bnR F N n (4 * p + (k : Int)) (decK (gotF F N R) k)) (z := ((4 ^ n : Nat) : Int)) (p := p) hz (fun k s hs => bnR_last n (4 * p + (k : Int)) _ s hs) 4 0 [(n + 1, p, R)] s rfl (by
          simp only [List.foldl_cons, List.foldl_nil, lstG]
          rw [if_neg (by omega)]
          simpa using h)
        refine ⟨this.1, ?_⟩
        have h2 := this.2
        rw [show (4 * p + ((0 + 4 : Nat) : Int)) = 4 * (p + 1) by omega] at h2
        exact h2
      · simp only [List.foldl_cons, List.foldl_nil, lstG, maxG]
        rw [if_neg (by omega), if_neg (by omega)]
        exact ⟨rfl, by omega⟩
end
end Go.Proofs.YtjhabngibbmpbaaGreat
