/- A slice of deeds (three integers each) as an argument, opened: no condition but that it is one. -/
import Derived.Test.YtgcnmopgpdmocaaDoorHBiAll
import Derived.Test.YtgcnmopgpdmocaaDoorHSegsP
import Derived.RangeFuncFrom
import Derived.RangeFuncBox
import Derived.Handy
import Derived.Test.YtgcnmopgpdmocaaDoorRows
import Derived.WalkKit
import Derived.ProofKit
import Derived.OpenShut
import Derived.Carry
import Derived.Deep.Slices
import Derived.Lib.SmallJoins
import Derived.SizedLaws

namespace Go.Proofs.YtgcnmopgpdmocaaDoor
open Go Go.RowKit Go.Shelf
set_option linter.unusedVariables false
set_option linter.unusedSimpArgs false
attribute [local go_sem] Oper.semAt_some
theorem eq_all_in (d f : Nat) (x : Array Value) (w : World) : (Op.equalIn (d + 1) 37 (.func (.func f) #[] x) .nilFunc).run Tryd.prog w = .ok false w := by
  simp [Op.equalIn, run_underlying Tryd.underlying37]
theorem eq_all (f : Nat) (x : Array Value) (w : World) : Sem.run Tryd.prog (binOp .eql 37 (.func (.func f) #[] x) .nilFunc) w = .ok (.bool false) w := by
  simp only [binOp]
  simp [show Op.equal 37 (.func (.func f) #[] x) .nilFunc = Op.equalIn (9999 + 1) 37 (.func (.func f) #[] x) .nilFunc from rfl, eq_all_in 9999 f x w]
theorem boxed_below {W W' : World} {B n : Nat} {t : TypeId} {v : Value} (h : Boxed W B t v) (hb : Below n W W') (hB : B < n) : Boxed W' B t v := (hb.block B hB).trans h
set_option maxRecDepth 100000 in
set_option maxHeartbeats 2000000 in
theorem walks_no (p : Int) (hp : p < 1 ∨ 8192 < p) (v : Value) (f : Int) (w : World) : Calls Tryd.prog 4 #[.int .i64 p, v, .int .i64 f] w fun e w' => e = .returned (.bool true) ∧ Below w.heap.size w w' := by
  refine (callsIn_wide (n := 3)).1 ?_
  refine callsIn_of_wp_marks Tryd.func4 rfl trivial ?_ rfl
  simp only [Tryd.ntmps4, List.size_toArray, List.length_cons, List.length_nil, Nat.reduceAdd, Nat.reduceSub, Array.replicate_succ, Array.replicate_zero, List.push_toArray, List.append_toArray, List.nil_append, List.cons_append]
  gi_wp2
  obtain ⟨w2, hw2⟩ : ∃ w2, (w.alloc (.cells #[.int .i64 f] 3)).alloc (.cells #[.bool false] 4) = w2 := ⟨_, rfl⟩
  have c6 : Boxed w2 (w.heap.size + 1) 4 (.bool false) := by
    rw [← hw2]
    have := Boxed.new (w.alloc (.cells #[.int .i64 f] 3)) 4 (.bool false)
    rwa [World.size_alloc] at this
  have hb2 : Below w.heap.size w w2 := by rw [← hw2]; exact ((Below.refl _ w).alloc (Nat.le_refl _) _).alloc (by simp) _
  have hs2 : w.heap.size + 1 < w2.heap.size := c6.lt
  rw [hw2]
  refine ⟨trivial, ?_⟩
  refine (callsIn_wide.2 (played_no p hp v w2)).mono ?_
  rintro e w' ⟨rfl, rfl⟩
  gi_wp2
  have hb3 : Below w.heap.size w (w'.alloc (.cells #[.slice none 0 0] 25)) := hb2.alloc (by omega) _
  have c63 : Boxed (w'.alloc (.cells #[.slice none 0 0] 25)) (w.heap.size + 1) 4 (.bool false) := c6.alloc _
  generalize w'.alloc (.cells #[.slice none 0 0] 25) = w3 at *
  refine ⟨trivial, ?_⟩
  refine (callsIn_wide.2 (awake11_any w3)).mono ?_
  rintro e w4 ⟨rfl, hb4⟩
  gi_wp2
  refine ⟨trivial, ?_⟩
  refine (callsIn_wide.2 (awake11_any w4)).mono ?_
  rintro e w5 ⟨rfl, hb5⟩
  have c65 : Boxed w5 (w.heap.size + 1) 4 (.bool false) := boxed_below (boxed_below c63 hb4 c63.lt) hb5 (boxed_below c63 hb4 c63.lt).lt
  have hb : Below w.heap.size w w5 := (hb3.trans (hb4.mono hb3.size)).trans (hb5.mono (Nat.le_trans hb3.size hb4.size))
  have cc := c65.cell
  have cf := c65.frozen
  gi_wp2
  have c6f := (c65.set (.bool true)).cell
  refine ⟨.bool true, ?_, rfl, hb.setCell (p := ⟨w.heap.size + 1, 0, none⟩) (by simp) _⟩
  simp [results, Tryd.f4, go_sem, c6f]
theorem onesL_cnt (F : Nat → Bool) : ∀ n, (onesL F n).length = cntF F n
  | 0 => rfl
  | n + 1 => by
    rw [onesL_succ, List.length_append, onesL_cnt F n]
    show _ = cntF F n + if F n = true then 1 else 0
    by_cases h : F n = true
    · simp [h]
    · simp [h]
def lastI : List Nat → Int
  | [] => -1
  | x :: xs => match xs with
    | [] => (x : Int)
    | y :: ys => lastI (y :: ys)
theorem lastI_snoc (x : Nat) : ∀ q : List Nat, lastI (q ++ [x]) = (x : Int)
  | [] => rfl
  | [y] => rfl
  | y :: z :: q => by
    have := lastI_snoc x (z :: q)
    simpa [lastI] using this
theorem steps_next {f : Int → Int} (x : Nat) : ∀ (q : List Nat) (p : Int) (xs : List Nat), Steps f p xs → (q ++ [x]) <+: xs → f (match q with | [] => p | _ => lastI q + 1) = (x : Int)
  | [], p, xs, hs, hp => by
    obtain ⟨t, rfl⟩ := hp
    exact hs.1
  | y :: q, p, xs, hs, hp => by
    obtain ⟨t, rfl⟩ := hp
    have ih := steps_next x q ((y : Int) + 1) (q ++ [x] ++ t) hs.2.2.2 ⟨t, rfl⟩
    cases q with
    | nil => exact ih
    | cons z q => exact ih
theorem steps_last {f : Int → Int} {xs q : List Nat} {x : Nat} (hs : Steps f 0 xs) (hp : (q ++ [x]) <+: xs) : f (lastI q + 1) = (x : Int) := by
  have := steps_next x q 0 xs hs hp
  cases q with
  | nil => exact this
  | cons y q => exact this
open Classical in
/-- what has come is right -/
noncomputable def goodL (f : Int → Int) (pre : List Nat) : Bool := decide (∀ (q : List Nat) (x : Nat), pre = q ++ [x] → f (lastI q + 1) = (x : Int))
theorem goodL_yes {f : Int → Int} {pre : List Nat} {x : Nat} (h : f (lastI pre + 1) = (x : Int)) : goodL f (pre ++ [x]) = true := by
  unfold goodL
  refine @decide_eq_true _ (Classical.propDecidable _) ?_
  intro q y e
  obtain ⟨rfl, h2⟩ := List.append_inj' e rfl
  injection h2 with h2
  rw [← h2, h]
theorem goodL_no {f : Int → Int} {pre : List Nat} {x : Nat} (h : f (lastI pre + 1) ≠ (x : Int)) : goodL f (pre ++ [x]) = false := by
  unfold goodL
  refine @decide_eq_false _ (Classical.propDecidable _) ?_
  exact fun q => h (q pre x rfl)
theorem goodL_all {f : Int → Int} {xs pre : List Nat} (hs : Steps f 0 xs) (hp : pre <+: xs) : goodL f pre = true := by
  unfold goodL
  refine @decide_eq_true _ (Classical.propDecidable _) ?_
  intro q y e
  subst e
  exact steps_last hs hp
set_option maxRecDepth 100000 in
set_option maxHeartbeats 4000000 in
theorem walks_ok (n : Nat) (h1 : 1 ≤ n) (h2 : n ≤ 8192) (a : Option Addr) (N cc : Nat) (hN : N ≤ 9223372036854775807) (K A Z : Nat → Int) (f : Int) (w : World) (h0 : 0 < w.heap.size) (hT : TabAt w) (hD : IsDeeds w a N K A Z) : Calls Tryd.prog 4 #[.int .i64 (n : Int), .slice a N cc, .int .i64 f] w fun e w' => e = .returned (.bool true) ∧ Below w.heap.size w w' := by
  have hqa := eq_all
  refine (callsIn_wide (n := 4)).1 ?_
  refine callsIn_of_wp_marks Tryd.func4 rfl trivial ?_ rfl
  simp only [Tryd.ntmps4, List.size_toArray, List.length_cons, List.length_nil, Nat.reduceAdd, Nat.reduceSub, Array.replicate_succ, Array.replicate_zero, List.push_toArray, List.append_toArray, List.nil_append, List.cons_append]
  gi_wp2
  obtain ⟨w2, hw2⟩ : ∃ w2, (w.alloc (.cells #[.int .i64 f] 3)).alloc (.cells #[.bool false] 4) = w2 := ⟨_, rfl⟩
  have c52 : Boxed w2 w.heap.size 3 (.int .i64 f) := by
    rw [← hw2]
    exact (Boxed.new w 3 (.int .i64 f)).alloc _
  have c62 : Boxed w2 (w.heap.size + 1) 4 (.bool false) := by
    rw [← hw2]
    have := Boxed.new (w.alloc (.cells #[.int .i64 f] 3)) 4 (.bool false)
    rwa [World.size_alloc] at this
  have hb2 : Below w.heap.size w w2 := by rw [← hw2]; exact ((Below.refl _ w).alloc (Nat.le_refl _) _).alloc (by simp) _
  have hs2 : w.heap.size + 1 < w2.heap.size := c62.lt
  rw [hw2]
  clear hw2
  refine ⟨trivial, ?_⟩
  refine (callsIn_wide.2 (played_ok h1 h2 a N cc hN K A Z w2 (hD.below hb2))).mono ?_
  rintro e w3 ⟨g, k, rfl, ⟨b, c, W, hM3⟩, hb3⟩
  gi_wp2
  have hk4 : Boxed (w3.alloc (.cells #[.slice (some ⟨k, 0, none⟩) n n] 25)) w3.heap.size 25 (.slice (some ⟨k, 0, none⟩) n n) := Boxed.new _ _ _
  have hb34 : Below w3.heap.size w3 (w3.alloc (.cells #[.slice (some ⟨k, 0, none⟩) n n] 25)) := (Below.refl _ w3).alloc (Nat.le_refl _) _
  have hs4 : w3.heap.size < (w3.alloc (.cells #[.slice (some ⟨k, 0, none⟩) n n] 25)).heap.size := hk4.lt
  generalize w3.alloc (.cells #[.slice (some ⟨k, 0, none⟩) n n] 25) = w4 at *
  refine ⟨trivial, ?_⟩
  refine (callsIn_wide.2 (awake11_any w4)).mono ?_
  rintro e w5 ⟨rfl, hb5⟩
  gi_wp2
  refine ⟨trivial, ?_⟩
  refine (all_in (.pointer (some ⟨g, 0, none⟩)) rfl w5).mono ?_
  rintro e w6 ⟨rfl, hw6⟩
  gi_wp2
  clear hw6
  obtain ⟨W0, hW0⟩ : ∃ W0, ((w5.alloc (.cells #[.pointer (some ⟨g, 0, none⟩)] 24)).alloc (.cells #[.int .i64 (-1)] 3)).alloc (.cells #[.int .i64 0] 3) = W0 := ⟨_, rfl⟩
  have hsz : W0.heap.size = w5.heap.size + 3 := by rw [← hW0]; simp
  have b50 : Below w5.heap.size w5 W0 := by rw [← hW0]; exact (((Below.refl _ w5).alloc (Nat.le_refl _) _).alloc (by simp) _).alloc (by simp; omega) _
  have cB : Boxed W0 w5.heap.size 24 (.pointer (some ⟨g, 0, none⟩)) := by
    rw [← hW0]
    exact ((Boxed.new w5 _ _).alloc _).alloc _
  have c11 : Boxed W0 (w5.heap.size + 1) 3 (.int .i64 (-1)) := by
    rw [← hW0]
    have := Boxed.new (w5.alloc (.cells #[.pointer (some ⟨g, 0, none⟩)] 24)) 3 (.int .i64 (-1))
    rw [World.size_alloc] at this
    exact this.alloc _
  have c12 : Boxed W0 (w5.heap.size + 1 + 1) 3 (.int .i64 0) := by
    rw [← hW0]
    have := Boxed.new ((w5.alloc (.cells #[.pointer (some ⟨g, 0, none⟩)] 24)).alloc (.cells #[.int .i64 (-1)] 3)) 3 (.int .i64 0)
    rwa [World.size_alloc, World.size_alloc] at this
  rw [hW0]
  clear hW0
  have hs3 := hb3.size
  have hs5 := hb5.size
  have b40 : Below w4.heap.size w4 W0 := hb5.trans (b50.mono hs5)
  have b30 : Below w3.heap.size w3 W0 := hb34.trans (b40.mono (by omega))
  have b20 : Below w2.heap.size w2 W0 := hb3.trans (b30.mono hs3)
  have hB0 : Below w.heap.size w W0 := hb2.trans (b20.mono (by omega))
  have c50 := boxed_below c52 b20 c52.lt
  have c60 := boxed_below c62 b20 c62.lt
  have c80 := boxed_below hk4 b40 hk4.lt
  have hM0 := hM3.below b30
  have hT0 : TabAt W0 := hT.below h0 hB0
  have hgl := hM3.m.glt
  have hbl := hM3.m.blt.2
  have hkl := hM3.a.lt.2
  clear c52 c62 hk4 b20 b30 b40 hb2 hb3 hb34 hb5 b50 hT hD
  have hst : Steps (fun p => nxt (bitF W) true n (fromN p)) 0 (onesL (bitF W) n) := steps_ones (bitF W) n h2
  have hNx : Nexts (w5.heap.size + 1) W0 (.pointer (some ⟨g, 0, none⟩)) (fun p => nxt (bitF W) true n (fromN p)) := nexts_map hM0.m hT0 (by omega) (by omega) (by omega) (by omega)
  refine wpIn_rangeFunc_ownF rfl (by decide) (gf := 40) (lb := #[.pointer (some ⟨w5.heap.size, 0, none⟩)]) rfl trivial (enters_of Tryd.func40 (by kernel_rfl) rfl)
    (all_stops w5.heap.size (w5.heap.size + 1) (.pointer (some ⟨g, 0, none⟩)) (fun p => nxt (bitF W) true n (fromN p)) (onesL (bitF W) n) W0 (by omega) (by omega) cB.cell hNx hst) belowK_t (belowK_b (by omega)) (Below.refl _ _) (fun _ => rfl)
    (fun pre V => (Boxed V (w5.heap.size + 1) 3 (.int .i64 (lastI pre)) ∧ Boxed V (w5.heap.size + 1 + 1) 3 (.int .i64 (pre.length : Int))) ∧ ((-1 ≤ lastI pre ∧ lastI pre ≤ 8192) ∧ Below (w5.heap.size + 1) W0 V))
    (fun c pre V => c = .ret ∧ (Boxed V (w.heap.size + 1) 4 (.bool (goodL (fun p => nxt (bitF W) true n (fromN p)) pre)) ∧ Below w.heap.size w V))
    (OwnFrom.and (OwnFrom.and (Own.from (boxed_own _ _ _) _) (Own.from (boxed_own _ _ _) _)) (OwnFrom.and (ownFrom_pure _ _) (ownFrom_below (by omega) (by omega))))
    (fun c => OwnFrom.and (ownFrom_pure _ _) (OwnFrom.and (Own.from (boxed_own _ _ _) _) (ownFrom_below (Nat.le_refl _) (by omega))))
    ⟨⟨c11, c12⟩, ⟨by decide, by decide⟩, Below.refl _ _⟩
    (fun x => { tmps := #[.int .i64 (n : Int), .slice a N cc, .int .i64 f, undef, undef, .pointer (some ⟨w.heap.size, 0, none⟩), .pointer (some ⟨w.heap.size + 1, 0, none⟩), .pointer (some ⟨g, 0, none⟩), .pointer (some ⟨w3.heap.size, 0, none⟩), .bool true, .func (.func 40) #[] #[.pointer (some ⟨w5.heap.size, 0, none⟩)], .pointer (some ⟨w5.heap.size + 1, 0, none⟩), .pointer (some ⟨w5.heap.size + 1 + 1, 0, none⟩), .int .i64 ((x : Nat) : Int), .tuple #[.pointer (some ⟨g, 0, none⟩), .slice (some ⟨k, 0, none⟩) n n, .bool true], .int .i64 (n : Int), .slice a N cc, .tuple #[.pointer (some ⟨g, 0, none⟩), .slice (some ⟨k, 0, none⟩) n n, .bool true], .pointer (some ⟨g, 0, none⟩), .slice (some ⟨k, 0, none⟩) n n, .bool true, .bool true, .bool false, .bool false, .bool true, .bool false, .bool false, .bool false, .pointer (some ⟨g, 0, none⟩), .bool false, .bool false, undef, undef, undef, undef, .pointer (some ⟨g, 0, none⟩), .func (.func 40) #[] #[.pointer (some ⟨w5.heap.size, 0, none⟩)], .func (.func 40) #[] #[.pointer (some ⟨w5.heap.size, 0, none⟩)], .bool false, .func (.func 40) #[] #[.pointer (some ⟨w5.heap.size, 0, none⟩)], .int .i64 ((x : Nat) : Int), undef, undef, undef, undef, undef, undef, undef, undef, undef, undef, undef, undef, undef, undef, undef, undef], defers := [] }) ?assign ?body ?done ?stop
  case assign =>
    intro l x V K hK
    gi_wp2
    exact hK
  case body =>
    rintro l pre x V ⟨⟨d11, d12⟩, ⟨hl1, hl2⟩, hbV⟩ hlen
    rw [onesL_cnt] at hlen
    have hcn : cntF (bitF W) n ≤ n := cntF_le _ _
    have d5 := boxed_below c50 hbV (by omega)
    have d6 := boxed_below c60 hbV (by omega)
    have d8 := boxed_below c80 hbV (by omega)
    have hA : BA V w2.heap.size k n n (bitF W) := hM0.a.keep (hbV.block k (by omega))
    have hB : Below w.heap.size w V := hB0.trans (hbV.mono (by omega))
    have hwr : wrap64 (lastI pre + 1) = lastI pre + 1 := by unfold wrap64; omega
    have hwl : wrap64 ((pre.length : Int) + 1) = (pre.length : Int) + 1 := by unfold wrap64; omega
    have HX : Hid (CallsIn (Fence.wide.inRound l) (4 - 1 - 1 - 1) Tryd.prog 17 #[.slice (some ⟨k, 0, none⟩) n n, .int .i64 (lastI pre + 1), .bool true] V fun e w' => e = .returned (.int .i64 (nxt (bitF W) true n (fromN (lastI pre + 1)))) ∧ w' = V) := CallsIn.inRound l (callsIn_wide.2 (rnext_one V hA (lastI pre + 1)))
    have hgd : ∀ y : Int, nxt (bitF W) true n (fromN (lastI pre + 1)) = y → (fun p => nxt (bitF W) true n (fromN p)) (lastI pre + 1) = y := fun y h => h
    have hnr := nxt_range (bitF W) true n (fromN (lastI pre + 1))
    generalize nxt (bitF W) true n (fromN (lastI pre + 1)) = z at *
    have e5 := d5.cell
    have e6 := d6.cell
    have e8 := d8.cell
    have e11 := d11.cell
    have e12 := d12.cell
    have f6 := d6.frozen
    have f11 := d11.frozen
    have f12 := d12.frozen
    gi_wp2
    refine ⟨trivial, ?_⟩
    refine HX.out.mono ?_
    rintro e V2 ⟨rfl, hV2⟩
    subst hV2
    have a11 := d11.set (.int .i64 z)
    have a12 := d12.other (show w5.heap.size + 1 + 1 ≠ w5.heap.size + 1 by omega) (.int .i64 z)
    have a5 := d5.other (show w.heap.size ≠ w5.heap.size + 1 by omega) (.int .i64 z)
    have a6 := d6.other (show w.heap.size + 1 ≠ w5.heap.size + 1 by omega) (.int .i64 z)
    have q11 := a11.other (show w5.heap.size + 1 ≠ w5.heap.size + 1 + 1 by omega) (.int .i64 ((pre.length : Int) + 1))
    have q12 := a12.set (.int .i64 ((pre.length : Int) + 1))
    have q5 := a5.other (show w.heap.size ≠ w5.heap.size + 1 + 1 by omega) (.int .i64 ((pre.length : Int) + 1))
    have q6 := a6.other (show w.heap.size + 1 ≠ w5.heap.size + 1 + 1 by omega) (.int .i64 ((pre.length : Int) + 1))
    have hKO : KeepsOthers V2 ((V2.setCell ⟨w5.heap.size + 1, 0, none⟩ (.int .i64 z)).setCell ⟨w5.heap.size + 1 + 1, 0, none⟩ (.int .i64 ((pre.length : Int) + 1))) := (KeepsOthers.setCell _ _ _).trans (KeepsOthers.setCell _ _ _)
    have hBl : ∀ m, m ≤ w5.heap.size + 1 → Below m V2 ((V2.setCell ⟨w5.heap.size + 1, 0, none⟩ (.int .i64 z)).setCell ⟨w5.heap.size + 1 + 1, 0, none⟩ (.int .i64 ((pre.length : Int) + 1))) := fun m hm => ((Below.refl m V2).setCell (p := ⟨w5.heap.size + 1, 0, none⟩) hm _).setCell (p := ⟨w5.heap.size + 1 + 1, 0, none⟩) (Nat.le_succ_of_le hm) _
    have hBw := hB.trans (hBl _ (by omega))
    have hKn := hBl _ (Nat.le_refl _)
    have hbn := hbV.trans hKn
    have G1 : (x : Int) = z → goodL (fun p => nxt (bitF W) true n (fromN p)) (pre ++ [x]) = true := fun h => goodL_yes (hgd _ h.symm)
    have G2 : (x : Int) ≠ z → goodL (fun p => nxt (bitF W) true n (fromN p)) (pre ++ [x]) = false := fun h => goodL_no fun h' => h (h'.symm.trans (hgd _ rfl))
    have hzr : -1 ≤ z ∧ z ≤ 8192 := by omega
    have HE : Hid (_ ∧ _ ∧ _ ∧ _ ∧ _ ∧ _ ∧ _ ∧ _ ∧ _ ∧ _) := ⟨hKO, hKn, q6, q11, q12, hBw, hbn, G1, G2, hzr⟩
    clear hgd HX hqa hst hNx cB c11 c12 d5 d6 d8 d11 d12 c50 c60 c80 hM0 hT0 hB0 hB hA hbV hnr hcn hl1 hl2 hlen a11 a12 a5 a6 q11 q12 q5 q6 hKO hBl hKn hBw hbn G1 G2 hzr
    have n4 : w.heap.size ≠ w5.heap.size := by omega
    by_cases hxz : (x : Int) = z
    · subst hxz
      by_cases hsp : ((pre.length : Int) + 1) = f
      · subst hsp
        gi_wp2
        obtain ⟨hKO, hKn, q6, q11, q12, hBw, hbn, G1, G2, hzr⟩ := HE.out
        have G : goodL (fun p => nxt (bitF W) true n (fromN p)) (pre ++ [x]) = true := by first | exact G1 rfl | exact G1 trivial
        exact ⟨hKO.trans (KeepsOthers.setCell _ _ _), rfl, by rw [G]; exact q6.set _, hBw.setCell (p := ⟨w.heap.size + 1, 0, none⟩) (Nat.le_succ _) _⟩
      · gi_wp2
        obtain ⟨hKO, hKn, q6, q11, q12, hBw, hbn, G1, G2, hzr⟩ := HE.out
        exact ⟨hKO, hKn, ⟨by rw [lastI_snoc]; exact q11, by rw [List.length_append]; simpa using q12⟩, ⟨by rw [lastI_snoc]; exact hzr.1, by rw [lastI_snoc]; exact hzr.2⟩, hbn⟩
    · gi_wp2
      obtain ⟨hKO, hKn, q6, q11, q12, hBw, hbn, G1, G2, hzr⟩ := HE.out
      exact ⟨hKO.trans (KeepsOthers.setCell _ _ _), rfl, by rw [G2 hxz]; exact q6.set _, hBw.setCell (p := ⟨w.heap.size + 1, 0, none⟩) (Nat.le_succ _) _⟩
  case done =>
    rintro D ys V hD rfl ⟨⟨d11, d12⟩, ⟨hl1, hl2⟩, hbV⟩ hK
    rw [onesL_cnt] at d12
    have d6 := boxed_below c60 hbV (by omega)
    have d8 := boxed_below c80 hbV (by omega)
    have hA : BA V w2.heap.size k n n (bitF W) := hM0.a.keep (hbV.block k (by omega))
    have hB : Below w.heap.size w V := hB0.trans (hbV.mono (by omega))
    have HC : Hid (∀ U, BA U w2.heap.size k n n (bitF W) → Calls Tryd.prog 18 #[.slice (some ⟨k, 0, none⟩) n n] U fun e w' => e = .returned (.int .i64 (cntF (bitF W) n : Int)) ∧ w' = U) := fun U hU => rcount_any U hU
    have S0 : V.drew.cell? ⟨w5.heap.size + 1 + 1, 0, none⟩ = some (.int .i64 (cntF (bitF W) n : Int)) ∧ V.drew.cell? ⟨w3.heap.size, 0, none⟩ = some (.slice (some ⟨k, 0, none⟩) n n) ∧ BA V.drew w2.heap.size k n n (bitF W) ∧ Boxed V.drew (w.heap.size + 1) 4 (.bool false) ∧ Below w.heap.size w V.drew ∧ V.drew.heap[D]? = some (.deferred (some [])) := ⟨d12.cell, d8.cell, hA.dN 1, d6, below_dN hB 1, hK⟩
    clear hqa hst hNx cB c11 c12 d6 d8 d11 d12 c50 c60 c80 hM0 hT0 hB0 hB hA hbV hl1 hl2 hK
    gi_wp2
    rename_i Q1 K1 a1
    refine wpIn_wide.2 ?_
    refine wp_region_partsS (fun U => U.cell? ⟨w5.heap.size + 1 + 1, 0, none⟩ = some (.int .i64 (cntF (bitF W) n : Int)) ∧ U.cell? ⟨w3.heap.size, 0, none⟩ = some (.slice (some ⟨k, 0, none⟩) n n) ∧ BA U w2.heap.size k n n (bitF W) ∧ Boxed U (w.heap.size + 1) 4 (.bool false) ∧ Below w.heap.size w U ∧ U.heap[D]? = some (.deferred (some []))) [([], 0, true), ([], 1, true), ([], 2, false), ([], 3, false)] [] [4] (by kernel_rfl) (by kernel_rfl) S0 (partsI_yield ?_)
    simp only [List.cons_append, List.nil_append, List.append_nil, List.filterMap_cons, List.filterMap_nil, List.getElem?_toArray, List.getElem?_cons_zero, List.getElem?_cons_succ]
    go_wp2_with fail
    refine ⟨rfl, _, .int .i64 (cntF (bitF W) n : Int), rfl, Or.inl ⟨by rfl, fun W hW => by have c1 := hW.1; go_simp⟩, partsI_yield ?_⟩
    simp only [Act.put, List.setIfInBounds_toArray, List.set_cons_zero, List.set_cons_succ]
    simp only [List.cons_append, List.nil_append, List.append_nil, List.filterMap_cons, List.filterMap_nil, List.getElem?_toArray, List.getElem?_cons_zero, List.getElem?_cons_succ]
    go_wp2_with fail
    refine ⟨rfl, _, .slice (some ⟨k, 0, none⟩) n n, rfl, Or.inl ⟨by rfl, fun W hW => by have c1 := hW.2.1; go_simp⟩, partsI_force ?_⟩
    simp only [Act.put, List.setIfInBounds_toArray, List.set_cons_zero, List.set_cons_succ]
    simp only [List.cons_append, List.nil_append, List.append_nil, List.filterMap_cons, List.filterMap_nil, List.getElem?_toArray, List.getElem?_cons_zero, List.getElem?_cons_succ]
    go_wp2_with fail
    refine (HC.out _ S0.2.2.1).mono ?_
    rintro e w7 ⟨rfl, hw7⟩
    subst hw7
    go_wp2_with fail
    refine ⟨rfl, S0, partsI_force ?_⟩
    simp only [List.cons_append, List.nil_append, List.append_nil, List.filterMap_cons, List.filterMap_nil, List.getElem?_toArray, List.getElem?_cons_zero, List.getElem?_cons_succ]
    go_wp2_with fail
    refine ⟨rfl, S0, partsI_last ?_⟩
    simp only [List.cons_append, List.nil_append, List.append_nil, List.filterMap_cons, List.filterMap_nil, List.getElem?_toArray, List.getElem?_cons_zero, List.getElem?_cons_succ]

    obtain ⟨_, _, _, d6, hB, hK⟩ := S0
    have e6 := d6.cell
    have f6 := d6.frozen
    have HE : Hid (_ ∧ _ ∧ _) := ⟨hB, d6, hK⟩
    clear hB hK d6 HC
    go_wp2_with fail
    refine ⟨rfl, ?_⟩
    refine a1 _ _ ?_
    gi_wp2
    obtain ⟨hB, d6, hK⟩ := HE.out
    have d6' := d6.set (.bool true)
    have hK' := (KeepsOthers.setCell V.drew ⟨w.heap.size + 1, 0, none⟩ (.bool true)).same D _ hK rfl
    refine ⟨by simp, .inl ⟨_, _, rfl, run_takeDeferred hK', ?_⟩⟩
    have hc5 := cell_kept d6'.cell (grownBy_putObj' _ D (.deferred none)) (fun r e => by cases e; exact ⟨_, hK', rfl⟩)
    have hbf := (hB.setCell (p := ⟨w.heap.size + 1, 0, none⟩) (by simp) (.bool true)).trans (belowK_b (w := w) (Nat.le_refl _) _ D _ (.deferred none) (by omega) hK' rfl rfl)
    have hc6 : ((V.setCell ⟨w.heap.size + 1, 0, none⟩ (.bool true)).drew.putObj D (.deferred none)).cell? ⟨w.heap.size + 1, 0, none⟩ = some (.bool true) := hc5
    have hbg : Below w.heap.size w ((V.setCell ⟨w.heap.size + 1, 0, none⟩ (.bool true)).drew.putObj D (.deferred none)) := hbf
    clear hc5 hbf
    generalize (V.setCell ⟨w.heap.size + 1, 0, none⟩ (.bool true)).drew.putObj D (.deferred none) = Wf at *
    refine ⟨.bool true, ?_, rfl, hbg⟩
    simp [results, Tryd.f4, go_sem, hc6]
  case stop =>
    rintro D c pre V hD hpre ⟨rfl, d6, hB⟩ hK
    rw [goodL_all hst hpre] at d6
    gi_wp2
    refine ⟨by simp, .inl ⟨_, _, rfl, run_takeDeferred hK, ?_⟩⟩
    have hc5 := cell_kept d6.cell (grownBy_putObj' _ D (.deferred none)) (fun r e => by cases e; exact ⟨_, hK, rfl⟩)
    refine ⟨.bool true, ?_, rfl, hB.trans (belowK_b (w := w) (Nat.le_refl _) V D _ _ (by omega) hK rfl rfl)⟩
    simp [results, Tryd.f4, go_sem, hc5]
theorem bitsWalksLaw (p : Int) (a : Option Addr) (N cc : Nat) (hN : N ≤ 9223372036854775807) (K A Z : Nat → Int) (f : Int) (w : World) (h0 : 0 < w.heap.size) (hT : TabAt w) (hD : IsDeeds w a N K A Z) : Calls Tryd.prog 4 #[.int .i64 p, .slice a N cc, .int .i64 f] w fun e w' => e = .returned (.bool true) ∧ Below w.heap.size w w' := by
  by_cases hp : p < 1 ∨ 8192 < p
  · exact walks_no p hp _ f w
  · obtain ⟨n, rfl⟩ := Int.eq_ofNat_of_zero_le (a := p) (by omega)
    exact walks_ok n (by omega) (by omega) a N cc hN K A Z f w h0 hT hD
end Go.Proofs.YtgcnmopgpdmocaaDoor

namespace Go.Proofs.YtgcnmopgpdmocaaDoor
open Go.ChangeShapes Go.WideShapes Go.ChangeAt Go.RowKit Go.Joins
set_option linter.unusedVariables false
theorem dcell_lt {w : World} {a : Addr} {v : Value} (h : w.cell? a = some v) : a.block < w.heap.size := by
  obtain ⟨e, n, hs, _⟩ := World.shape?_of_cell? h
  unfold World.shape? at hs
  cases hb : w.heap[a.block]? with
  | none => simp [hb] at hs
  | some o => exact (Array.getElem?_eq_some_iff.1 hb).1
set_option maxRecDepth 100000 in
theorem open_deeds {H : Type} {enc : TypeId × Value → H} {W : World} {a0 : Option Addr} {len cap fuel : Nat} {x : DataW H × List MemPlace}
    (hf : DataW.trod enc Tryd.prog W 0 (fun _ => true) true fuel 23 [.slice a0 len cap] = some x) (hsz : ∀ n ∈ x.1.weights Tryd.prog 23, n ≤ reachBytes) :
    ∃ (K A Z : Nat → Int), len ≤ 9223372036854775807 ∧ IsDeeds W a0 len K A Z := by
  rcases Deep.open_slice Tryd.underlying23 hf with ⟨hcs, hx⟩ | ⟨a, len', cap', m, n, D, Pl, hcs, _, hl, hm, hmm, hx, hel⟩
  · simp at hcs
    obtain ⟨rfl, rfl, rfl⟩ := hcs
    exact ⟨fun _ => 0, fun _ => 0, fun _ => 0, by omega, fun i hi => absurd hi (by omega)⟩
  · simp at hcs
    obtain ⟨rfl, rfl, rfl⟩ := hcs
    subst hx
    simp only [if_true] at hmm
    subst hmm
    have hu := Tryd.underlying23
    have hby : Tryd.prog.bytesOf 53 = 24 := by kernel_rfl
    have hw0 := hsz ((((List.range len).map D).length + ((List.range (m - len)).map fun j => D (len + j)).length) * Tryd.prog.bytesOf 53) (by simp [DataW.weights, hu])
    rw [hby] at hw0
    simp only [List.length_map, List.length_range] at hw0
    have hlen4 : len ≤ 9223372036854775807 := by
      unfold reachBytes at hw0
      omega
    have hce : Tryd.prog.cellsOf 53 = 3 := by kernel_rfl
    have hci : Tryd.prog.cellsOf 3 = 1 := by kernel_rfl
    have hsp : 0 < len → a.spot = none := fun h0 => by
      obtain ⟨cs', h1, _⟩ := hel 0 (by omega)
      rw [hce] at h1
      obtain ⟨_, hcl, hcell⟩ := World.cells?_some h1
      match cs', hcl with
      | [v0, v1, v2], _ => simpa [Addr.add] using World.cell?_spot (hcell 0 (by omega))
    have each : ∀ i, ∃ q : Int × Int × Int, i < len → ∃ b o, a = ⟨b, o, none⟩ ∧ b < W.heap.size ∧ W.cell? ⟨b, o + i * 3, none⟩ = some (.int .i64 q.1) ∧ W.cell? ⟨b, o + i * 3 + 1, none⟩ = some (.int .i64 q.2.1) ∧ W.cell? ⟨b, o + i * 3 + 2, none⟩ = some (.int .i64 q.2.2) ∧ (-9223372036854775808 ≤ q.2.1 ∧ q.2.1 ≤ 9223372036854775807) ∧ (-9223372036854775808 ≤ q.2.2 ∧ q.2.2 ≤ 9223372036854775807) := by
      intro i
      by_cases hi : i < len
      · obtain ⟨cs', h1, h2⟩ := hel i (by omega)
        rw [hce] at h1
        obtain ⟨_, hcl, hcell⟩ := World.cells?_some h1
        obtain ⟨xs, k, hk, hxy, _, hxl, hfs⟩ := DataW.trod_struct Tryd.underlying53 h2
        match xs, hxl, cs', hcl with
        | [y0, y1, y2], _, [v0, v1, v2], _ =>
          have g0 := hfs 0 _ rfl
          have g1 := hfs 1 _ rfl
          have g2 := hfs 2 _ rfl
          simp [hci] at g0 g1 g2
          obtain ⟨p, e0, _, w0⟩ := DataW.trod_int Tryd.underlying3 g0
          obtain ⟨q, e1, _, w1⟩ := DataW.trod_int Tryd.underlying3 g1
          obtain ⟨r, e2, _, w2⟩ := DataW.trod_int Tryd.underlying3 g2
          simp at e0 e1 e2
          subst e0 e1 e2
          refine ⟨(p, q, r), fun _ => ?_⟩
          have c0 := hcell 0 (by decide)
          have c1 := hcell 1 (by decide)
          have c2 := hcell 2 (by decide)
          obtain ⟨b, off, spot⟩ := a
          have hspot : spot = none := hsp (by omega)
          subst hspot
          simp only [Addr.add_mid, List.getElem?_cons_zero, List.getElem?_cons_succ] at c0 c1 c2
          exact ⟨b, off, rfl, dcell_lt c0, c0, c1, c2, bounds_i64 w1, bounds_i64 w2⟩
      · exact ⟨(0, 0, 0), fun h => absurd h hi⟩
    refine ⟨fun i => (Classical.choose (each i)).1, fun i => (Classical.choose (each i)).2.1, fun i => (Classical.choose (each i)).2.2, hlen4, fun i hi => ?_⟩
    obtain ⟨b, o, rfl, h1, h2, h3, h4, h5⟩ := Classical.choose_spec (each i) hi
    exact ⟨b, o, rfl, h1, h2, h3, h4, h5⟩
end Go.Proofs.YtgcnmopgpdmocaaDoor
