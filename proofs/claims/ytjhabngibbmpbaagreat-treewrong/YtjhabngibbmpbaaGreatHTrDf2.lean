/- Trees: Diff against a tree of nothing: look. -/
import Derived.Test.YtjhabngibbmpbaaGreatHTrDf
import Derived.Handy

namespace Go.Proofs.YtjhabngibbmpbaaGreat
theorem sgLHTrDf2 : (∀ (α : Type) (a : α) (l r : List α), (a :: l) ++ r = a :: (l ++ r)) ∧ (∀ (α : Type) (l : List α), [] ++ l = l) ∧ (∀ (α : Type) (l : List α), l ++ [] = l) ∧ (∀ (α β : Type) (f : α → Option β) (a : α) (l : List α), (a :: l).filterMap f = match f a with | none => l.filterMap f | some b => b :: l.filterMap f) ∧ (∀ (α β : Type) (f : α → Option β), [].filterMap f = []) ∧ (∀ (α : Type) (l : List α) (i : Nat), l.toArray[i]? = l[i]?) ∧ (∀ (α : Type) (a : α) (l : List α), (a :: l)[0]? = some a) ∧ (∀ (α : Type) (a : α) (l : List α) (i : Nat), (a :: l)[i + 1]? = l[i]?) :=
  ⟨fun _ _ _ _ => List.cons_append, fun _ _ => List.nil_append _, fun _ _ => List.append_nil _, fun _ _ _ _ _ => List.filterMap_cons, fun _ _ _ => List.filterMap_nil, fun _ _ _ => List.getElem?_toArray, fun _ _ _ => List.getElem?_cons_zero, fun _ _ _ _ => List.getElem?_cons_succ⟩
theorem sgPHTrDf2 : (∀ (α : Type) (l : List α) (i : Nat) (a : α), l.toArray.setIfInBounds i a = (l.set i a).toArray) ∧ (∀ (α : Type) (a b : α) (l : List α), (a :: l).set 0 b = b :: l) ∧ (∀ (α : Type) (a b : α) (l : List α) (i : Nat), (a :: l).set (i + 1) b = a :: l.set i b) :=
  ⟨fun _ _ _ _ => List.setIfInBounds_toArray _ _ _, fun _ _ _ _ => List.set_cons_zero, fun _ _ _ _ _ => List.set_cons_succ⟩
end Go.Proofs.YtjhabngibbmpbaaGreat
namespace Go.Proofs.YtjhabngibbmpbaaGreat
open Go Go.RowKit
set_option linter.unusedSimpArgs false
set_option linter.unusedVariables false
/-- what look does where the old tree has nothing -/
def stL (s : List Ps) (l : Nat) (p : Int) (R : Rf) : List Ps × Bool × Int := (s ++ [(l, p, R)], true, 0)
theorem kids_look {f : List Ps → Nat → List Ps × Int} {g : Nat → List Ps × Int} (h : ∀ s k, f s k = (s ++ (g k).1, (g k).2)) : ∀ (m k : Nat) (s acc : List Ps), kidsR f m k (s ++ acc) = (s ++ (bnK g m k acc).1, (bnK g m k acc).2)
  | 0, k, s, acc => rfl
  | m + 1, k, s, acc => by
    unfold kidsR bnK
    rw [h]
    by_cases h0 : (g k).2 = 0
    · simp only [if_pos h0]
      rw [List.append_assoc]
      exact kids_look h m (k + 1) s (acc ++ (g k).1)
    · simp only [if_neg h0]
      rw [List.append_assoc]
theorem wlk_look {F : Nat → Nat} {N : Nat} : ∀ (n : Nat) (s : List Ps) (p : Int) (R : Rf), wlkR F N stL n s p R = (s ++ (bnR F N n p R).1, (bnR F N n p R).2)
  | 0, s, p, R => by
    unfold wlkR bnR
    by_cases h0 : R = rf0
    · simp [h0]
    · simp [h0, stL]
  | n + 1, s, p, R => by
    unfold wlkR bnR
    by_cases h0 : R = rf0
    · simp [h0]
    · rw [if_neg h0, if_neg h0]
      have e : stL s (n + 1) p R = (s ++ [(n + 1, p, R)], true, 0) := rfl
      rw [e, if_pos ⟨rfl, rfl⟩]
      by_cases h1 : nodE F N ((n + 1 : Nat) : Int) R = 0
      · rw [if_pos h1, if_pos h1]
        exact kids_look (fun s k => by rw [wlk_look n s, Int.mul_comm]) 4 0 s [(n + 1, p, R)]
      · rw [if_neg h1, if_neg h1]
section
variable {B g N c m room : Nat} {F : Nat → Nat} {bx Bm : Nat} {k9 : Int}
/-- what look is asked to do at a level -/
def LookP (B g N : Nat) (F : Nat → Nat) (c m room bx Bm : Nat) (k9 : Int) (n : Nat) : Prop := ∀ (s : List Ps) (z : Value) (p : Int) (R : Rf) (i : Nat) (U : Nat → Prop) (w : World), 0 ≤ p → (p + 1) * ((4 ^ n : Nat) : Int) ≤ 4096 → R.1 < 4294967296 → i + pN n < 34359738000 → WS B g N F c m room (gft bx) (QA bx Bm) List.length w i U s z → Calls Tryz.prog 79 #[.agg (seC c k9 rf0 (.func (.func 61) #[] #[.pointer (some ⟨bx, 0, none⟩)])), .agg (poC (n : Int) p R), .agg (rfC rf0)] w fun e w' => e = .returned (.int .i64 (wlkR F N stL n s p R).2) ∧ WSt B g N F c m room (gft bx) (QA bx Bm) List.length w w' (i + pN n) U z (wlkR F N stL n s p R).1
theorem qa_keep : ∀ (s : List Ps) (z : Value) (V V' : World) (T : Nat → Prop), QA bx Bm s z V → Turns T V V' → (∀ b, T b → ¬ gft bx z b) → QA bx Bm s z V' := fun s z V V' T h ht hT => ⟨h.1.keep ht hT, Nat.le_trans h.2 ht.size⟩
set_option maxRecDepth 100000 in
set_option maxHeartbeats 16000000 in
theorem look_lvl (hF : ∀ a, F a < 256) (n : Nat) (hn : n ≤ 6) (IH : ∀ n', n = n' + 1 → LookP B g N F c m room bx Bm k9 n') : LookP B g N F c m room bx Bm k9 n := by
  intro s z p R i U w hp0 hp1 hR hi H
  generalize hfv : (Value.func (.func 61) #[] #[.pointer (some ⟨bx, 0, none⟩)]) = fv at *
  have HFV : Hid (fv = .func (.func 61) #[] #[.pointer (some ⟨bx, 0, none⟩)]) := hfv.symm
  clear hfv
  have hpn : 2 ≤ pN n := by cases n <;> simp [pN]
  have hz := zero_bk
  have hzn := zero_node
  have s1 : Blk (((w.alloc (.cells (seC c k9 rf0 fv) 125)).alloc (.cells (poC (n : Int) p R) 75)).alloc (.cells (rfC rf0) 44)) w.heap.size 125 (seC c k9 rf0 fv) := ((Blk.new _ _ _).alloc _).alloc _
  have t1 : Blk (((w.alloc (.cells (seC c k9 rf0 fv) 125)).alloc (.cells (poC (n : Int) p R) 75)).alloc (.cells (rfC rf0) 44)) (w.heap.size + 1) 75 (poC (n : Int) p R) := (Blk.new1 _ _ _ _).alloc _
  have r1 : Blk (((w.alloc (.cells (seC c k9 rf0 fv) 125)).alloc (.cells (poC (n : Int) p R) 75)).alloc (.cells (rfC rf0) 44)) (w.heap.size + 2) 44 (rfC rf0) := Blk.new2 _ _ _ _ _
  have hb1 : Below w.heap.size w (((w.alloc (.cells (seC c k9 rf0 fv) 125)).alloc (.cells (poC (n : Int) p R) 75)).alloc (.cells (rfC rf0) 44)) := below_new3 _ _ _ _
  have HK1 : Hid (Blk (((w.alloc (.cells (seC c k9 rf0 fv) 125)).alloc (.cells (poC (n : Int) p R) 75)).alloc (.cells (rfC rf0) 44)) w.heap.size 125 (seC c k9 rf0 fv) ∧ Blk (((w.alloc (.cells (seC c k9 rf0 fv) 125)).alloc (.cells (poC (n : Int) p R) 75)).alloc (.cells (rfC rf0) 44)) (w.heap.size + 1) 75 (poC (n : Int) p R) ∧ Blk (((w.alloc (.cells (seC c k9 rf0 fv) 125)).alloc (.cells (poC (n : Int) p R) 75)).alloc (.cells (rfC rf0) 44)) (w.heap.size + 2) 44 (rfC rf0) ∧ Below w.heap.size w (((w.alloc (.cells (seC c k9 rf0 fv) 125)).alloc (.cells (poC (n : Int) p R) 75)).alloc (.cells (rfC rf0) 44))) := ⟨s1, t1, r1, hb1⟩
  have HIH : Hid (∀ n', n = n' + 1 → LookP B g N F c m room bx Bm k9 n') := IH
  have HP : Hid (n ≤ 6 ∧ 0 ≤ p ∧ (p + 1) * ((4 ^ n : Nat) : Int) ≤ 4096 ∧ R.1 < 4294967296 ∧ i + pN n < 34359738000 ∧ 2 ≤ pN n ∧ (∀ a, F a < 256)) := ⟨hn, hp0, hp1, hR, hi, hpn, hF⟩
  have HS0 : Hid (WS B g N F c m room (gft bx) (QA bx Bm) List.length w i U s z) := H
  have HSU : Hid (∀ b, (U b ∨ gft bx z b) → b < w.heap.size) := fun b q => q.elim (fun u => (H.td.lt b u).2) (H.lt b)
  have z1 : (((w.alloc (.cells (seC c k9 rf0 fv) 125)).alloc (.cells (poC (n : Int) p R) 75)).alloc (.cells (rfC rf0) 44)).cell? ⟨w.heap.size + 1, 0, none⟩ = some (.int .i64 (n : Int)) := (t1.cell 0).trans (va_at (poF (n : Int) p R) (by decide))
  have z2 : (((w.alloc (.cells (seC c k9 rf0 fv) 125)).alloc (.cells (poC (n : Int) p R) 75)).alloc (.cells (rfC rf0) 44)).cell? ⟨w.heap.size, 1, none⟩ = some (.int .i64 k9) := (s1.cell 1).trans (va_at (seF c k9 rf0 fv) (by decide))
  have z3 : (((w.alloc (.cells (seC c k9 rf0 fv) 125)).alloc (.cells (poC (n : Int) p R) 75)).alloc (.cells (rfC rf0) 44)).cell? ⟨w.heap.size + 1, 1, none⟩ = some (.int .i64 p) := (t1.cell 1).trans (va_at (poF (n : Int) p R) (by decide))
  clear H IH hn hp0 hp1 hR hi hpn hF s1 t1 r1 hb1
  go_enter Tryz.func79, Tryz.ntmps79
  go_upto_region 1 with fail
  generalize (((w.alloc (.cells (seC c k9 rf0 fv) 125)).alloc (.cells (poC (n : Int) p R) 75)).alloc (.cells (rfC rf0) 44)) = w1 at *
  obtain ⟨ni, hni⟩ : ∃ ni : Int, (n : Int) = ni := ⟨_, rfl⟩
  have HNI : Hid ((n : Int) = ni) := hni
  rw [hni] at z1
  clear hni
  go_cut [23] (fun v wx => v = .bool (decide (ni = k9 ∧ p = 0)) ∧ w1 = wx)
  case first =>
    by_cases h1 : ni = k9
    · subst h1
      by_cases h2 : p = 0
      · subst h2
        go_wp2_with fail
        go_meet
        exact ⟨by simp, rfl⟩
      · go_wp2_with fail
        go_meet
        exact ⟨by simp [h2], rfl⟩
    · go_wp2_with fail
      go_meet
      exact ⟨by simp [h1], rfl⟩
  case rest =>
    obtain ⟨rfl, rfl⟩ := hcut
    clear z1 z2 z3
    go_upto_if 23 with fail
    go_cut [] (fun wx => Hid (Blk wx w.heap.size 125 (seC c k9 rf0 fv) ∧ Blk wx (w.heap.size + 1) 75 (poC (n : Int) p R) ∧ Blk wx (w.heap.size + 2) 44 (rfC rf0) ∧ Below w.heap.size w wx))
    case first =>
      by_cases hd : ni = k9 ∧ p = 0
      · rw [decide_eq_true hd]
        have HRR : Hid (w1.rangeAt w.heap.size 2 ((List.range 33).map (rfF rf0.1 rf0.2))) := se_root HK1.out.1
        have r1 := HK1.out.2.2.1
        go_wp2_with (first
          | (refine wpList_load_blk (by rfl) 44 _ (by rfl) (w.heap.size) (2) 33 (rfF rf0.1 rf0.2) (by rfl) _ (by exact HRR.out) Tryz.underlying44 rfl tsizeRef ?_; simp only [Act.put, sgPHTrDf2])
          | (refine wpList_store_row (by rfl) 44 _ _ (by rfl) (w.heap.size + 2) (rfC rf0) (by rfl) (by rfl) 44 (_) (by exact r1) (tsizeRef.trans (by rw [rfC_size])) (by simp only [rfC_size]) (rfC_all _) ?_; simp only [Act.put, sgPHTrDf2])
          | fail)
        go_meet
        exact ⟨HK1.out.1.other _ (by omega), HK1.out.2.1.other _ (by omega), HK1.out.2.2.1.set _, below_setRow HK1.out.2.2.2 (by omega) _⟩
      · rw [decide_eq_false hd]
        go_wp2_with fail
        go_meet
        exact HK1.out
    case rest =>
      obtain ⟨w2, rfl⟩ : ∃ u, u = wc := ⟨_, rfl⟩
      have HK2 : Hid (Blk w2 w.heap.size 125 (seC c k9 rf0 fv) ∧ Blk w2 (w.heap.size + 1) 75 (poC (n : Int) p R) ∧ Blk w2 (w.heap.size + 2) 44 (rfC rf0) ∧ Below w.heap.size w w2) := hcut
      clear hcut HK1
      have HRP : Hid (w2.rangeAt (w.heap.size + 1) 2 ((List.range 33).map (rfF R.1 R.2))) := po_range HK2.out.2.1
      by_cases hR0 : R = rf0
      · subst hR0
        have hNn : Hid (∀ w, Calls Tryz.prog 45 #[.agg (rfC rf0)] w fun e w' => e = .returned (.bool true) ∧ Below w.heap.size w w') := fun w => by
          have := none_any rf0 w
          rw [decide_eq_true rfl] at this
          exact this
        have HE : Hid (wlkR F N stL n s p rf0 = (s, 0)) := by
          show _ = _
          cases n <;> simp [wlkR]
        go_wp2_with (first
          | (refine wpList_load_blk (by rfl) 44 _ (by rfl) (w.heap.size + 1) (2) 33 (rfF rf0.1 rf0.2) (by rfl) _ (by exact HRP.out) Tryz.underlying44 rfl tsizeRef ?_; simp only [Act.put, sgPHTrDf2])
          | fail)
        refine (hNn.out w2).mono ?_
        rintro x w3 ⟨rfl, hb3⟩
        have hb13 := HK2.out.2.2.2.trans (hb3.mono HK2.out.2.2.2.size)
        go_wp2_with fail
        go_ret
        rw [HE.out]
        exact ⟨rfl, .of ((HS0.out.below qa_keep hb13).mono (by omega)) hb13⟩
      · have hNn : Hid (∀ w, Calls Tryz.prog 45 #[.agg (rfC R)] w fun e w' => e = .returned (.bool false) ∧ Below w.heap.size w w') := fun w => by
          have := none_any R w
          rw [decide_eq_false hR0] at this
          exact this
        have HR0 : Hid (R ≠ rf0) := hR0
        clear hR0
        go_wp2_with (first
          | (refine wpList_load_blk (by rfl) 44 _ (by rfl) (w.heap.size + 1) (2) 33 (rfF R.1 R.2) (by rfl) _ (by exact HRP.out) Tryz.underlying44 rfl tsizeRef ?_; simp only [Act.put, sgPHTrDf2])
          | fail)
        refine (hNn.out w2).mono ?_
        rintro x w3 ⟨rfl, hb3⟩
        have HK3 : Hid (Blk w3 w.heap.size 125 (seC c k9 rf0 fv) ∧ Blk w3 (w.heap.size + 1) 75 (poC (n : Int) p R) ∧ Blk w3 (w.heap.size + 2) 44 (rfC rf0) ∧ Below w.heap.size w w3) := ⟨HK2.out.1.below hb3 HK2.out.1.lt, HK2.out.2.1.below hb3 HK2.out.2.1.lt, HK2.out.2.2.1.below hb3 HK2.out.2.2.1.lt, HK2.out.2.2.2.trans (hb3.mono HK2.out.2.2.2.size)⟩
        have HRP3 : Hid (w3.rangeAt (w.heap.size + 1) 2 ((List.range 33).map (rfF R.1 R.2))) := po_range HK3.out.2.1
        have r3 := HK3.out.2.2.1
        clear hb3 HK2 HRP hNn
        go_wp2_with (first
          | (refine wpList_load_rowg (by rfl) 44 _ (by rfl) (w.heap.size + 2) (by rfl) 44 (rfC rf0) (0, 0) _ (by exact r3) Tryz.underlying44 (by rfl) (tsizeRef.trans (by rw [rfC_size])) ?_; simp only [Act.put, sgPHTrDf2])
          | (refine tr_load_blkg (by rfl) 44 _ (by rfl) (w.heap.size + 1) (2) 33 (rfF R.1 R.2) (by rfl) _ (by exact HRP3.out) Tryz.underlying44 rfl tsizeRef ?_; simp only [Act.put, sgPHTrDf2])
          | fail)
        refine (alike_none R w3).mono ?_
        rintro x w4 ⟨rfl, hb4⟩
        have HK4 : Hid (Blk w4 w.heap.size 125 (seC c k9 rf0 fv) ∧ Blk w4 (w.heap.size + 1) 75 (poC (n : Int) p R) ∧ Blk w4 (w.heap.size + 2) 44 (rfC rf0) ∧ Below w.heap.size w w4) := ⟨HK3.out.1.below hb4 HK3.out.1.lt, HK3.out.2.1.below hb4 HK3.out.2.1.lt, HK3.out.2.2.1.below hb4 HK3.out.2.2.1.lt, HK3.out.2.2.2.trans (hb4.mono HK3.out.2.2.2.size)⟩
        have f4 : w4.cell? ⟨w.heap.size, 35, none⟩ = some fv := (HK4.out.1.cell 35).trans (va_at (seF c k9 rf0 fv) (by decide))
        have t4 := HK4.out.2.1
        rw [HFV.out] at f4
        clear hb4 HK3 HRP3 r3
        go_wp2_with (first
          | (refine wpList_load_rowg (by rfl) 75 _ (by rfl) (w.heap.size + 1) (by rfl) 75 (poC (n : Int) p R) (0, 0) _ (by exact t4) Tryz.underlying75 (by rfl) (sizePo.trans (by rw [poC_size])) ?_; simp only [Act.put, sgPHTrDf2])
          | fail)
        have hs4 : WS B g N F c m room (gft bx) (QA bx Bm) List.length w4 i U s z := HS0.out.below qa_keep HK4.out.2.2.2
        refine (tell1_any s z w4 n p R (by have h1 := hs4.cn; have h2 := HP.out; omega) hs4.q).mono ?_
        rintro x w5 ⟨rfl, z5, hq5, ht5, hf5⟩
        have hgl : ∀ b, gft bx z b → b < w.heap.size := HS0.out.lt
        have HS5 : Hid (WS B g N F c m room (gft bx) (QA bx Bm) List.length w5 (i + 1) U (s ++ [(n, p, R)]) z5) := by
          refine ⟨(hs4.td.kept ht5.size fun x hx => ht5.block x (hs4.td.lt x hx).2 fun q => hs4.ap x q hx).mono (Nat.le_succ _), hq5, fun b q u => ?_, by have := hs4.cn; rw [List.length_append]; simp; omega, fun b q => hq5.1.lt b q⟩
          rcases hf5 b q with q | q
          · exact hs4.ap b q u
          · have := (hs4.td.lt b u).2
            omega
        have HT5 : Hid (Turns (fun b => U b ∨ gft bx z b) w w5) := (Turns.of_below (S := fun b => U b ∨ gft bx z b) HK4.out.2.2.2).trans ht5 fun b q => .inl (.inr q)
        have HF5 : Hid (∀ b, (U b ∨ gft bx z5 b) → (U b ∨ gft bx z b) ∨ w.heap.size + 3 ≤ b) := fun b q => by
          have h9 := HK4.out.2.2.1.lt
          rcases q with q | q
          · exact .inl (.inl q)
          · exact (hf5 b q).imp .inr (by omega)
        have HK5 : Hid (Blk w5 w.heap.size 125 (seC c k9 rf0 fv) ∧ Blk w5 (w.heap.size + 1) 75 (poC (n : Int) p R) ∧ Blk w5 (w.heap.size + 2) 44 (rfC rf0)) := ⟨ht5.blk HK4.out.1 fun q => by have := hgl _ q; omega, ht5.blk HK4.out.2.1 fun q => by have := hgl _ q; omega, ht5.blk HK4.out.2.2.1 fun q => by have := hgl _ q; omega⟩
        have z5c : w5.cell? ⟨w.heap.size + 1, 0, none⟩ = some (.int .i64 ni) := ((HK5.out.2.1.cell 0).trans (va_at (poF (n : Int) p R) (by decide))).trans (by rw [← HNI.out]; rfl)
        clear hs4 hq5 ht5 hf5 hgl t4 f4 HK4
        cases n with
        | zero =>
          have HR : Hid (wlkR F N stL 0 s p R = (s ++ [(0, p, R)], 0)) := by
            have h2 := HR0.out
            show _ = _
            simp [wlkR, h2, stL]
          obtain rfl : 0 = ni := HNI.out
          go_wp2_with fail
          go_ret
          rw [HR.out]
          exact ⟨rfl, U, _, HS5.out.mono (by have := HP.out; omega), HT5.out, fun b q => (HF5.out b q).imp id (by omega)⟩
        | succ n =>
          have hnz : ¬ ni = 0 := by have := HNI.out; omega
          obtain ⟨ne, hne⟩ : ∃ ne, nodE F N ((n + 1 : Nat) : Int) R = ne := ⟨_, rfl⟩
          have HNE : Hid (nodE F N ((n + 1 : Nat) : Int) R = ne) := hne
          have HRN : Hid (∀ (U : Nat → Prop) (w : World), TD w B g N F c m room (i + 1) U → Calls Tryz.prog 73 #[.pointer (some ⟨c, 0, none⟩), .agg (poC ((n + 1 : Nat) : Int) p R)] w fun x w' => x = .returned (.tuple #[.agg (va 256 (iv .u8 (if ne = 0 then gotF F N R else fun _ => 0))), .agg (if ne = 0 then ndC ((n + 1 : Nat) : Int) (decK (gotF F N R)) else ndC 0 fun _ => rf0), .int .i64 ne]) ∧ TDStep w w' B g N F c m room (i + 1 + 1) U) := fun U w h1 => readNode_td _ _ _ HP.out.2.2.2.1 (by have := HP.out; omega) HP.out.2.2.2.2.2.2 ne hne w h1
          clear hne
          --[S
          have hl : ((n + 1 : Nat) : Int) = ni := HNI.out
          rw [hl] at HRN HNE
          have HL9 : Hid (((n + 1 : Nat) : Int) = ni) := hl
          generalize hpc : poC ((n + 1 : Nat) : Int) p R = pc at *
          rw [hl] at hpc
          subst hpc
          clear hl
          generalize ni = l at *
          have s5 := HK5.out.1
          have r5 := HK5.out.2.2
          have HBT : Hid (Tryz.prog.built 75 [(0, .int .i64 l), (2, .agg (rfC rf0))] = some (poC l 0 rf0)) := built_po2 l rf0
          go_wp2_with (first
            | (refine wpList_load_rowg (by rfl) 125 _ (by rfl) (w.heap.size) (by rfl) 125 (seC c k9 rf0 fv) (0, 0) _ (by exact s5) Tryz.underlying125 (by rfl) (size_se.trans (by rw [seC_size])) ?_; simp only [Act.put, sgPHTrDf2])
            | (refine wpList_load_rowg (by rfl) 44 _ (by rfl) (w.heap.size + 2) (by rfl) 44 (rfC rf0) (0, 0) _ (by exact r5) Tryz.underlying44 (by rfl) (tsizeRef.trans (by rw [rfC_size])) ?_; simp only [Act.put, sgPHTrDf2])
            | (refine tr_build2 (by rfl) 75 0 2 _ _ (by rfl) (.int .i64 l) (.agg (rfC rf0)) (by rfl) (by rfl) (poC l 0 rf0) (by exact HBT.out) ?_; simp only [Act.put, sgPHTrDf2])
            | fail)
          refine (oldNode_none l w5).mono ?_
          rintro x w6 ⟨rfl, hb6⟩
          have o0 : Blk (w6.alloc (.cells (ndC 0 fun _ => rf0) 157)) w6.heap.size 157 (ndC 0 fun _ => rf0) := Blk.new _ _ _
          have o7 : Blk ((w6.alloc (.cells (ndC 0 fun _ => rf0) 157)).setRow w6.heap.size (ndC 0 fun _ => rf0)) w6.heap.size 157 (ndC 0 fun _ => rf0) := o0.set _
          have hb67 : Below w6.heap.size w6 ((w6.alloc (.cells (ndC 0 fun _ => rf0) 157)).setRow w6.heap.size (ndC 0 fun _ => rf0)) := below_setRow (below_new1 _ _) (Nat.le_refl _) _
          have hb57 := hb6.trans (hb67.mono hb6.size)
          have HK7 : Hid (Blk ((w6.alloc (.cells (ndC 0 fun _ => rf0) 157)).setRow w6.heap.size (ndC 0 fun _ => rf0)) w.heap.size 125 (seC c k9 rf0 fv) ∧ Blk ((w6.alloc (.cells (ndC 0 fun _ => rf0) 157)).setRow w6.heap.size (ndC 0 fun _ => rf0)) (w.heap.size + 1) 75 (poC l p R)) := ⟨HK5.out.1.below hb57 HK5.out.1.lt, HK5.out.2.1.below hb57 HK5.out.2.1.lt⟩
          have HS7 : Hid (WS B g N F c m room (gft bx) (QA bx Bm) List.length ((w6.alloc (.cells (ndC 0 fun _ => rf0) 157)).setRow w6.heap.size (ndC 0 fun _ => rf0)) (i + 1) U (s ++ [(n + 1, p, R)]) _) := HS5.out.below qa_keep hb57
          have HT7 : Hid (Turns (fun b => U b ∨ gft bx z b) w ((w6.alloc (.cells (ndC 0 fun _ => rf0) 157)).setRow w6.heap.size (ndC 0 fun _ => rf0))) := HT5.out.trans (Turns.of_below (S := fun b => U b ∨ gft bx z b) hb57) fun b q => .inl q
          have HOB : Hid (w.heap.size + 3 ≤ w6.heap.size) := Nat.le_trans HK5.out.2.2.lt hb6.size
          have HGB : Hid (∀ b, (U b ∨ gft bx z5 b) → b < w6.heap.size) := fun b q => Nat.lt_of_lt_of_le (q.elim (fun u => (HS5.out.td.lt b u).2) (HS5.out.lt b)) hb6.size
          have s7 := HK7.out.1
          have t7 := HK7.out.2
          have c7 : ((w6.alloc (.cells (ndC 0 fun _ => rf0) 157)).setRow w6.heap.size (ndC 0 fun _ => rf0)).cell? ⟨w.heap.size, 0, none⟩ = some (.pointer (some ⟨c, 0, none⟩)) := (s7.cell 0).trans (va_at (seF c k9 rf0 fv) (by decide))
          clear hb6 hb67 hb57 HK5 HS5 HT5 s5 r5 z5c HBT s7
          go_wp2_with (first
            | (refine wpList_store_row (by rfl) 157 _ _ (by rfl) (w6.heap.size) (ndC 0 fun _ => rf0) (by rfl) (by rfl) 157 (_) (by exact o0) (tsizeNd.trans (by rw [ndC_size])) (by simp only [ndC_size]) (ndC_all _ _) ?_; simp only [Act.put, sgPHTrDf2])
            | (refine wpList_load_rowg (by rfl) 75 _ (by rfl) (w.heap.size + 1) (by rfl) 75 (poC l p R) (0, 0) _ (by exact t7) Tryz.underlying75 (by rfl) (sizePo.trans (by rw [poC_size])) ?_; simp only [Act.put, sgPHTrDf2])
            | fail)
          clear o0 c7
          generalize ((w6.alloc (.cells (ndC 0 fun _ => rf0) 157)).setRow w6.heap.size (ndC 0 fun _ => rf0)) = w7 at *
          generalize w6.heap.size = ob at *
          refine (HRN.out U w7 HS7.out.td).mono ?_
          rintro x w8 ⟨rfl, hs8⟩
          obtain ⟨U8, hs8, ht8, hf8⟩ := HS7.out.step qa_keep hs8 (by omega)
          have hn8 : ∀ b, b < ob + 1 → w.heap.size ≤ b → (b = ob ∨ b < w.heap.size + 3) → ¬ (U b ∨ gft bx z5 b) := fun b h1 h2 h3 q => by
            have h4 := HGB.out b q
            rcases HF5.out b q with u | u
            · have := HSU.out b u
              omega
            · omega
          have HK8 : Hid (Blk w8 w.heap.size 125 (seC c k9 rf0 fv) ∧ Blk w8 (w.heap.size + 1) 75 (poC l p R) ∧ Blk w8 ob 157 (ndC 0 fun _ => rf0)) := ⟨ht8.blk HK7.out.1 (hn8 _ (by have := HOB.out; omega) (by omega) (.inr (by omega))), ht8.blk HK7.out.2 (hn8 _ (by have := HOB.out; omega) (by omega) (.inr (by omega))), ht8.blk o7 (hn8 _ (by omega) (by have := HOB.out; omega) (.inl rfl))⟩
          have hT8 : Turns (fun b => U b ∨ gft bx z b) w w8 := HT7.out.trans ht8 fun b q => (HF5.out b q).imp id (by omega)
          have hF8 : ∀ b, (U8 b ∨ gft bx z5 b) → (U b ∨ gft bx z b) ∨ (w.heap.size + 3 ≤ b ∧ b ≠ ob) := fun b q => by
            have h9 := o7.lt
            rcases hf8 b q with u | u
            · rcases HF5.out b u with y | y
              · exact .inl y
              · exact .inr ⟨y, fun e => by have := HGB.out b u; omega⟩
            · exact .inr (by have := HOB.out; omega)
          clear ht8 hf8 hn8 t7 HK7 HRN o7
          obtain ⟨f, hf⟩ : ∃ f, (if ne = 0 then gotF F N R else fun _ => 0) = f := ⟨_, rfl⟩
          obtain ⟨nl, hnl⟩ : ∃ nl, (if ne = 0 then l else 0) = nl := ⟨_, rfl⟩
          obtain ⟨K, hK⟩ : ∃ K, (if ne = 0 then decK (gotF F N R) else fun _ => rf0) = K := ⟨_, rfl⟩
          have hnd : (if ne = 0 then ndC l (decK (gotF F N R)) else ndC 0 fun _ => rf0) = ndC nl K := by
            rw [← hnl, ← hK]
            by_cases h0 : ne = 0
            · simp [h0]
            · simp [h0]
          rw [hf, hnd]
          have HKK : Hid (ne = 0 → decK (gotF F N R) = K) := fun h0 => by rw [← hK, if_pos h0]
          have q0 : Blk ((w8.alloc (.cells (va 256 (iv .u8 fun _ => 0)) 38)).alloc (.cells (ndC 0 fun _ => rf0) 157)) w8.heap.size 38 (va 256 (iv .u8 fun _ => 0)) := (Blk.new _ _ _).alloc _
          have y0 : Blk ((w8.alloc (.cells (va 256 (iv .u8 fun _ => 0)) 38)).alloc (.cells (ndC 0 fun _ => rf0) 157)) (w8.heap.size + 1) 157 (ndC 0 fun _ => rf0) := Blk.new1 _ _ _ _
          have y1 := y0.other (va 256 (iv .u8 f)) (show w8.heap.size + 1 ≠ w8.heap.size by omega)
          have y7 : Blk ((((w8.alloc (.cells (va 256 (iv .u8 fun _ => 0)) 38)).alloc (.cells (ndC 0 fun _ => rf0) 157)).setRow w8.heap.size (va 256 (iv .u8 f))).setRow (w8.heap.size + 1) (ndC nl K)) (w8.heap.size + 1) 157 (ndC nl K) := y1.set _
          have hb9 : Below w8.heap.size w8 ((((w8.alloc (.cells (va 256 (iv .u8 fun _ => 0)) 38)).alloc (.cells (ndC 0 fun _ => rf0) 157)).setRow w8.heap.size (va 256 (iv .u8 f))).setRow (w8.heap.size + 1) (ndC nl K)) := below_setRow (below_setRow (below_new2 _ _ _) (Nat.le_refl _) _) (by omega) _
          have HK9 : Hid (Blk ((((w8.alloc (.cells (va 256 (iv .u8 fun _ => 0)) 38)).alloc (.cells (ndC 0 fun _ => rf0) 157)).setRow w8.heap.size (va 256 (iv .u8 f))).setRow (w8.heap.size + 1) (ndC nl K)) w.heap.size 125 (seC c k9 rf0 fv) ∧ Blk ((((w8.alloc (.cells (va 256 (iv .u8 fun _ => 0)) 38)).alloc (.cells (ndC 0 fun _ => rf0) 157)).setRow w8.heap.size (va 256 (iv .u8 f))).setRow (w8.heap.size + 1) (ndC nl K)) (w.heap.size + 1) 75 (poC l p R) ∧ Blk ((((w8.alloc (.cells (va 256 (iv .u8 fun _ => 0)) 38)).alloc (.cells (ndC 0 fun _ => rf0) 157)).setRow w8.heap.size (va 256 (iv .u8 f))).setRow (w8.heap.size + 1) (ndC nl K)) (w8.heap.size + 1) 157 (ndC nl K) ∧ Blk ((((w8.alloc (.cells (va 256 (iv .u8 fun _ => 0)) 38)).alloc (.cells (ndC 0 fun _ => rf0) 157)).setRow w8.heap.size (va 256 (iv .u8 f))).setRow (w8.heap.size + 1) (ndC nl K)) ob 157 (ndC 0 fun _ => rf0)) := ⟨HK8.out.1.below hb9 HK8.out.1.lt, HK8.out.2.1.below hb9 HK8.out.2.1.lt, y7, HK8.out.2.2.below hb9 HK8.out.2.2.lt⟩
          have HS9 : Hid (WS B g N F c m room (gft bx) (QA bx Bm) List.length ((((w8.alloc (.cells (va 256 (iv .u8 fun _ => 0)) 38)).alloc (.cells (ndC 0 fun _ => rf0) 157)).setRow w8.heap.size (va 256 (iv .u8 f))).setRow (w8.heap.size + 1) (ndC nl K)) (i + 1 + 1) U8 (s ++ [(n + 1, p, R)]) _) := hs8.below qa_keep hb9
          have HT9 : Hid (Turns (fun b => U b ∨ gft bx z b) w ((((w8.alloc (.cells (va 256 (iv .u8 fun _ => 0)) 38)).alloc (.cells (ndC 0 fun _ => rf0) 157)).setRow w8.heap.size (va 256 (iv .u8 f))).setRow (w8.heap.size + 1) (ndC nl K))) := hT8.trans (Turns.of_below (S := fun b => U b ∨ gft bx z b) hb9) fun b q => .inl q
          have HY9 : Hid (w.heap.size + 3 ≤ ob ∧ ob < w8.heap.size ∧ ∀ b, (U8 b ∨ gft bx z5 b) → b < w8.heap.size) := ⟨HOB.out, HK8.out.2.2.lt, fun b q => q.elim (fun u => (hs8.td.lt b u).2) (hs8.lt b)⟩
          have HF9 : Hid (∀ b, (U8 b ∨ gft bx z5 b) → (U b ∨ gft bx z b) ∨ (w.heap.size + 3 ≤ b ∧ b ≠ ob)) := hF8
          clear hs8 hT8 hF8 hb9 y7 HK8 HS7 HT7 HGB HOB HF5 hf hK hnl hnd
          go_upto_region 12 with (first
            | (refine wpList_store_row (by rfl) 38 _ _ (by rfl) (w8.heap.size) (va 256 (iv .u8 f)) (by rfl) (by rfl) 38 _ q0 (sizeBk.trans (by rw [va_size])) (by simp only [va_size]) (iv_one _ _ _) ?_; simp only [Act.put, sgPHTrDf2])
            | (refine wpList_store_row (by rfl) 157 _ _ (by rfl) (w8.heap.size + 1) (ndC nl K) (by rfl) (by rfl) 157 (_) (by exact y1) (tsizeNd.trans (by rw [ndC_size])) (by simp only [ndC_size]) (ndC_all _ _) ?_; simp only [Act.put, sgPHTrDf2])
            | fail)
          clear q0 y0 y1
          generalize ((((w8.alloc (.cells (va 256 (iv .u8 fun _ => 0)) 38)).alloc (.cells (ndC 0 fun _ => rf0) 157)).setRow w8.heap.size (va 256 (iv .u8 f))).setRow (w8.heap.size + 1) (ndC nl K)) = w9 at *
          generalize hyb : w8.heap.size + 1 = yb at *
          have HY : Hid (w.heap.size + 3 ≤ ob ∧ ob + 1 < yb ∧ ∀ b, (U8 b ∨ gft bx z5 b) → b + 1 < yb) := ⟨HY9.out.1, by have := HY9.out.2.1; omega, fun b q => by have := HY9.out.2.2 b q; omega⟩
          clear hyb HY9
          by_cases hn0 : ne = 0
          · subst hn0
            have HW : Hid (wlkR F N stL (n + 1) s p R = kidsR (fun s k => wlkR F N stL n s (p * 4 + (k : Int)) (K k)) 4 0 (s ++ [(n + 1, p, R)])) := by
              show _ = _
              have h2 := HR0.out
              have h3 := HNE.out
              have h4 := HKK.out rfl
              rw [← HL9.out] at h3
              simp only [wlkR, stL, h2, h3, h4, if_true, if_false, and_self]
            have HKL : Hid (∀ k, (K k).1 < 4294967296) := fun k => by
              rw [← HKK.out rfl]
              exact decK_lt _ _
            have HWk : Hid (∀ (k : Nat) (s : List Ps) (z : Value) (j : Nat) (U : Nat → Prop) (w : World), k < 4 → j ≤ i + 2 + k * pN n → WS B g N F c m room (gft bx) (QA bx Bm) List.length w j U s z → Calls Tryz.prog 79 #[.agg (seC c k9 rf0 fv), .agg (poC (l - 1) (p * 4 + (k : Int)) (K k)), .agg (rfC rf0)] w fun e w' => e = .returned (.int .i64 (wlkR F N stL n s (p * 4 + (k : Int)) (K k)).2) ∧ WSt B g N F c m room (gft bx) (QA bx Bm) List.length w w' (j + pN n) U z (wlkR F N stL n s (p * 4 + (k : Int)) (K k)).1) := fun k s z j U w hk hj hw => by
              have h6 := HP.out
              have h7 : pN (n + 1) = 2 + 4 * pN n := rfl
              have h8 : k * pN n ≤ 3 * pN n := Nat.mul_le_mul_right _ (by omega)
              have h9 : (4 ^ (n + 1) : Nat) = 4 ^ n * 4 := Nat.pow_succ _ _
              have ha := h6.2.2.1
              rw [h9] at ha
              have hpos : (1 : Int) ≤ ((4 ^ n : Nat) : Int) := by
                have := pow4_pos n
                omega
              have hb : (p * 4 + (k : Int) + 1) * ((4 ^ n : Nat) : Int) ≤ 4096 := by
                push_cast at ha hpos ⊢
                generalize (4 : Int) ^ n = z at *
                have hc : (p * 4 + (k : Int) + 1) * z ≤ (p * 4 + 4) * z := Int.mul_le_mul_of_nonneg_right (by omega) (by omega)
                have hd : (p + 1) * (z * 4) = (p * 4 + 4) * z := by
                  rw [Int.mul_comm z 4, ← Int.mul_assoc, Int.add_mul, Int.one_mul]
                omega
              have := HIH.out n rfl s z (p * 4 + (k : Int)) (K k) j U w (by omega) hb (HKL.out k) (by omega) hw
              rw [show l - 1 = (n : Int) by have := HL9.out; omega, HFV.out]
              exact this
            have HBn : Hid (∀ (k : Nat) (w : World), k < 4 → Calls Tryz.prog 74 #[.agg (poC l p R), .agg (ndC nl K), .int .i64 (k : Int)] w fun x w' => x = .returned (.agg (poC (l - 1) (p * 4 + (k : Int)) (K k))) ∧ Below w.heap.size w w') := fun k w hk => beneath_any l p nl R K k hk (by have := HP.out; have := HL9.out; omega) (by
              have h6 := HP.out
              have hpos : (1 : Int) ≤ ((4 ^ (n + 1) : Nat) : Int) := by
                have := pow4_pos (n + 1)
                omega
              have := Int.mul_le_mul_of_nonneg_left hpos (show 0 ≤ p + 1 by omega)
              omega) w
            clear HIH HKK HNE
            go_wp2_with fail
            go_loopw [66] (fun t wr => Hid (∃ (k : Nat) (s' : List Ps) (z' : Value) (U' : Nat → Prop), k ≤ 4 ∧ t = .int .i64 (k : Int) ∧ kidsR (fun s k => wlkR F N stL n s (p * 4 + (k : Int)) (K k)) (4 - k) k s' = wlkR F N stL (n + 1) s p R ∧ WS B g N F c m room (gft bx) (QA bx Bm) List.length wr (i + 2 + k * pN n) U' s' z' ∧ Turns (fun b => U b ∨ gft bx z b) w wr ∧ (∀ b, (U' b ∨ gft bx z' b) → (U b ∨ gft bx z b) ∨ (w.heap.size + 3 ≤ b ∧ b ≠ yb ∧ b ≠ ob)) ∧ (Blk wr w.heap.size 125 (seC c k9 rf0 fv) ∧ Blk wr (w.heap.size + 1) 75 (poC l p R) ∧ Blk wr yb 157 (ndC nl K) ∧ Blk wr ob 157 (ndC 0 fun _ => rf0)))) (fun t _ => 4 - (intOf t).toNat)
            case atStart =>
              refine ⟨0, s ++ [(n + 1, p, R)], z5, U8, by omega, rfl, HW.out.symm, by simpa using HS9.out, HT9.out, fun b q => ?_, HK9.out⟩
              rcases HF9.out b q with u | u
              · exact .inl u
              · have := HY.out.2.2 b q
                exact .inr (by omega)
            case round =>
              clear HS9 HT9 HF9 HK9
              obtain ⟨k, s', z', U', hk, rfl, hre, hws, htu, hfo, hss⟩ := Hid.out hrel
              clear hrel
              have hpn : pN (n + 1) = 2 + 4 * pN n := rfl
              have HPN : Hid (pN (n + 1) = 2 + 4 * pN n) := hpn
              have HWS : Hid (WS B g N F c m room (gft bx) (QA bx Bm) List.length wr (i + 2 + k * pN n) U' s' z') := hws
              have HTU : Hid (Turns (fun b => U b ∨ gft bx z b) w wr) := htu
              have HFO : Hid (∀ b, (U' b ∨ gft bx z' b) → (U b ∨ gft bx z b) ∨ (w.heap.size + 3 ≤ b ∧ b ≠ yb ∧ b ≠ ob)) := hfo
              have HRE : Hid (kidsR (fun s k => wlkR F N stL n s (p * 4 + (k : Int)) (K k)) (4 - k) k s' = wlkR F N stL (n + 1) s p R) := hre
              clear hws htu hfo hre hpn
              by_cases hlt : k < 4
              · have hk4 : (k : Int) < 4 := by omega
                have hk0 : (0 : Int) ≤ (k : Int) := by omega
                have HLT : Hid (k < 4) := hlt
                have hS : Blk wr.drew w.heap.size 125 (seC c k9 rf0 fv) ∧ Blk wr.drew (w.heap.size + 1) 75 (poC l p R) ∧ Blk wr.drew yb 157 (ndC nl K) ∧ Blk wr.drew ob 157 (ndC 0 fun _ => rf0) := hss
                clear hss
                go_wp2_with fail
                refine wp_region_partsS (fun W => Blk W w.heap.size 125 (seC c k9 rf0 fv) ∧ Blk W (w.heap.size + 1) 75 (poC l p R) ∧ Blk W yb 157 (ndC nl K) ∧ Blk W ob 157 (ndC 0 fun _ => rf0)) [([3, 5], 0, true), ([], 1, true), ([], 2, true), ([], 6, true), ([7], 8, true), ([], 4, false), ([], 9, false)] [10] [] (by kernel_rfl) (by kernel_rfl) hS (partsI_yield ?_)
                simp only [sgLHTrDf2]
                go_wp2_with fail
                refine ⟨rfl, _, .agg (seC c k9 rf0 fv), rfl, kyields_load (by rfl) 125 _ (by rfl) w.heap.size 36 (seF c k9 rf0 fv) (by rfl) _ 125 (fun W hW => hW.1) Tryz.underlying125 rfl size_se, partsI_yield ?_⟩
                simp only [Act.put, sgPHTrDf2]
                simp only [sgLHTrDf2]
                go_wp2_with fail
                refine ⟨rfl, _, .agg (poC l p R), rfl, kyields_load (by rfl) 75 _ (by rfl) (w.heap.size + 1) 35 (poF l p R) (by rfl) _ 75 (fun W hW => hW.2.1) Tryz.underlying75 rfl sizePo, partsI_yield ?_⟩
                simp only [Act.put, sgPHTrDf2]
                simp only [sgLHTrDf2]
                go_wp2_with fail
                refine ⟨rfl, _, .agg (ndC nl K), rfl, kyields_load (by rfl) 157 _ (by rfl) yb 133 (ndF nl K) (by rfl) _ 157 (fun W hW => hW.2.2.1) Tryz.underlying157 rfl tsizeNd, partsI_yield ?_⟩
                simp only [Act.put, sgPHTrDf2]
                simp only [sgLHTrDf2]
                go_wp2_with fail
                refine ⟨rfl, _, .pointer (some ⟨ob, 1, none⟩), rfl, Or.inl ⟨by rfl, fun W hW => by go_simp⟩, partsI_yield ?_⟩
                simp only [Act.put, sgPHTrDf2]
                simp only [sgLHTrDf2]
                go_wp2_with fail
                refine ⟨rfl, _, .agg (rfC rf0), rfl, kyields_load_at (by rfl) 44 _ (by rfl) ob (1 + k * 33) 33 (rfF rf0.1 rf0.2) (by rfl) _ (fun W hW => nd_range hW.2.2.2 k HLT.out) Tryz.underlying44 rfl tsizeRef, partsI_force ?_⟩
                simp only [Act.put, sgPHTrDf2]
                simp only [sgLHTrDf2]
                go_wp2_with fail
                refine (HBn.out k wr.drew hlt).mono ?_
                rintro x w8 ⟨rfl, hb8⟩
                have hS8 := (⟨hS.1.below hb8 hS.1.lt, hS.2.1.below hb8 hS.2.1.lt, hS.2.2.1.below hb8 hS.2.2.1.lt, hS.2.2.2.below hb8 hS.2.2.2.lt⟩ : Blk w8 w.heap.size 125 (seC c k9 rf0 fv) ∧ Blk w8 (w.heap.size + 1) 75 (poC l p R) ∧ Blk w8 yb 157 (ndC nl K) ∧ Blk w8 ob 157 (ndC 0 fun _ => rf0))
                have HS8 : Hid (WS B g N F c m room (gft bx) (QA bx Bm) List.length w8 (i + 2 + k * pN n) U' s' z') := (HWS.out.below qa_keep (Below.refl _ _).drew).below qa_keep hb8
                have HT8 : Hid (Turns (fun b => U b ∨ gft bx z b) w w8) := (HTU.out.trans (Turns.of_below (S := fun b => U b ∨ gft bx z b) (Below.refl _ _).drew) fun b q => .inl q).trans (Turns.of_below (S := fun b => U b ∨ gft bx z b) hb8) fun b q => .inl q
                have HY8 : Hid (yb < w8.heap.size ∧ ob < w8.heap.size) := ⟨hS8.2.2.1.lt, hS8.2.2.2.lt⟩
                clear hb8 hS
                go_wp2_with fail
                refine ⟨rfl, hS8, partsI_force ?_⟩
                simp only [sgLHTrDf2]
                go_wp2_with fail
                refine (HWk.out k s' z' _ U' w8 hlt (Nat.le_refl _) HS8.out).mono ?_
                rintro x w9 ⟨rfl, U9, z9, hs9, ht9, hf9⟩
                have nn : ∀ b, (b = w.heap.size ∨ b = w.heap.size + 1 ∨ b = yb ∨ b = ob) → ¬ (U' b ∨ gft bx z' b) := fun b hb q => by
                  have h1 := HY.out
                  rcases HFO.out b q with u | u
                  · have := HSU.out b u
                    omega
                  · omega
                have hS9 := (⟨ht9.blk hS8.1 (nn _ (.inl rfl)), ht9.blk hS8.2.1 (nn _ (.inr (.inl rfl))), ht9.blk hS8.2.2.1 (nn _ (.inr (.inr (.inl rfl)))), ht9.blk hS8.2.2.2 (nn _ (.inr (.inr (.inr rfl))))⟩ : Blk w9 w.heap.size 125 (seC c k9 rf0 fv) ∧ Blk w9 (w.heap.size + 1) 75 (poC l p R) ∧ Blk w9 yb 157 (ndC nl K) ∧ Blk w9 ob 157 (ndC 0 fun _ => rf0))
                go_wp2_with fail
                refine ⟨rfl, hS9, partsI_last ?_⟩
                simp only [sgLHTrDf2]
                go_wp2_with fail
                refine ⟨rfl, ?_⟩
                have HS9 : Hid (Blk w9 w.heap.size 125 (seC c k9 rf0 fv) ∧ Blk w9 (w.heap.size + 1) 75 (poC l p R) ∧ Blk w9 yb 157 (ndC nl K) ∧ Blk w9 ob 157 (ndC 0 fun _ => rf0)) := hS9
                have HT9 : Hid (Turns (fun b => U b ∨ gft bx z b) w w9) := HT8.out.trans ht9 fun b q => (HFO.out b q).imp id (by omega)
                have HF9 : Hid (∀ b, (U9 b ∨ gft bx z9 b) → (U b ∨ gft bx z b) ∨ (w.heap.size + 3 ≤ b ∧ b ≠ yb ∧ b ≠ ob)) := fun b q => by
                  rcases hf9 b q with u | u
                  · exact HFO.out b u
                  · have h1 := HY8.out
                    have h2 := HY.out
                    exact .inr (by omega)
                have HW9 : Hid (WS B g N F c m room (gft bx) (QA bx Bm) List.length w9 (i + 2 + k * pN n + pN n) U9 (wlkR F N stL n s' (p * 4 + (k : Int)) (K k)).1 z9) := hs9
                have HRK : Hid ((if (wlkR F N stL n s' (p * 4 + (k : Int)) (K k)).2 = 0 then kidsR (fun s k => wlkR F N stL n s (p * 4 + (k : Int)) (K k)) (4 - (k + 1)) (k + 1) (wlkR F N stL n s' (p * 4 + (k : Int)) (K k)).1 else wlkR F N stL n s' (p * 4 + (k : Int)) (K k)) = wlkR F N stL (n + 1) s p R) := by
                  have h1 := HRE.out
                  rw [show 4 - k = (4 - (k + 1)) + 1 by omega] at h1
                  exact h1
                clear hs9 ht9 hf9 HT8 HS8 HFO HRE hS8 hS9 nn
                generalize wlkR F N stL n s' (p * 4 + (k : Int)) (K k) = rv at *
                obtain ⟨s9, e9⟩ := rv
                have h4k : k * pN n + pN n = (k + 1) * pN n := (Nat.succ_mul _ _).symm
                have H4K : Hid (k * pN n + pN n = (k + 1) * pN n) := h4k
                clear h4k
                by_cases h9 : e9 = 0
                · subst h9
                  have HRL : Hid (kidsR (fun s k => wlkR F N stL n s (p * 4 + (k : Int)) (K k)) (4 - (k + 1)) (k + 1) s9 = wlkR F N stL (n + 1) s p R) := by
                    show _ = _
                    have := HRK.out
                    simpa using this
                  clear HRK
                  go_wp2_with fail
                  go_roundw
                  case rel => exact ⟨k + 1, s9, z9, U9, HLT.out, by first | rfl | go_num | simp, HRL.out, by have := HW9.out; rw [Nat.add_assoc, H4K.out] at this; exact this, HT9.out, HF9.out, HS9.out⟩
                  case measure => simp [intOf]; have := HLT.out; omega
                · have HRL : Hid (wlkR F N stL (n + 1) s p R = (s9, e9)) := by
                    show _ = _
                    have := HRK.out
                    simp only [if_neg h9] at this
                    exact this.symm
                  have hne2 : (e9 != 0) = true := by simp [h9]
                  have hne3 : decide (e9 = 0) = false := decide_eq_false h9
                  clear HRK
                  go_wp2_with fail
                  go_ret
                  rw [HRL.out]
                  refine ⟨rfl, U9, z9, HW9.out.mono ?_, HT9.out, fun b q => (HF9.out b q).imp id (by omega)⟩
                  have h1 := H4K.out
                  have h2 := HPN.out
                  have h3 := HLT.out
                  have : (k + 1) * pN n ≤ 4 * pN n := Nat.mul_le_mul_right _ (by omega)
                  omega
              · obtain rfl : k = 4 := by omega
                have HRL : Hid (wlkR F N stL (n + 1) s p R = (s', 0)) := HRE.out.symm
                go_wp2_with fail
                go_ret
                rw [HRL.out]
                exact ⟨rfl, U', z', HWS.out.mono (by have h2 := HPN.out; omega), HTU.out, fun b q => (HFO.out b q).imp id (by omega)⟩
          · have HW : Hid (wlkR F N stL (n + 1) s p R = (s ++ [(n + 1, p, R)], ne)) := by
              show _ = _
              have h2 := HR0.out
              have h3 := HNE.out
              rw [← HL9.out] at h3
              simp only [wlkR, stL, h2, h3, if_true, if_false, and_self, if_neg hn0]
            have hne2 : (ne != 0) = true := by simp [hn0]
            have hne3 : decide (ne = 0) = false := decide_eq_false hn0
            go_wp2_with fail
            go_ret
            rw [HW.out]
            exact ⟨rfl, U8, z5, HS9.out.mono (by have h1 : pN (n + 1) = 2 + 4 * pN n := rfl; omega), HT9.out, fun b q => (HF9.out b q).imp id (by omega)⟩
          --S]
theorem look_any (hF : ∀ a, F a < 256) : ∀ (n : Nat), n ≤ 6 → LookP B g N F c m room bx Bm k9 n
  | 0, h => look_lvl hF 0 h fun n' e => by omega
  | n + 1, h => look_lvl hF (n + 1) h fun n' e => by
    obtain rfl : n = n' := by omega
    exact look_any hF n (by omega)
end
end Go.Proofs.YtjhabngibbmpbaaGreat
