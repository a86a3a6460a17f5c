/- An entry as an argument. -/
import Derived.Test.YtojnlmfahgeidaaGreatDoorHDiLoop
import Derived.Test.YtojnlmfahgeidaaGreatDoorHDiNames
import Derived.Test.YtojnlmfahgeidaaGreatDoorHInsDrop
import Derived.Test.YtojnlmfahgeidaaGreatDoorHMath
import Derived.Deep.Cut
import Derived.Deep.DeepCutAuto
import Derived.Handy
import Derived.Test.YtojnlmfahgeidaaGreatDoorHBytesRef
import Derived.Test.YtojnlmfahgeidaaGreatDoorRows
import Derived.WalkKit
import Derived.ProofKit
import Derived.OpenShut
import Derived.Carry
import Derived.Deep.Slices
import Derived.Lib.SmallJoins
import Derived.SizedLaws
import Derived.SliceStrings
import Derived.ChangeArms

namespace Go.Proofs.YtojnlmfahgeidaaGreatDoor
theorem sgLHNaOpen : (∀ (α : Type) (a : α) (l r : List α), (a :: l) ++ r = a :: (l ++ r)) ∧ (∀ (α : Type) (l : List α), [] ++ l = l) ∧ (∀ (α : Type) (l : List α), l ++ [] = l) ∧ (∀ (α β : Type) (f : α → Option β) (a : α) (l : List α), (a :: l).filterMap f = match f a with | none => l.filterMap f | some b => b :: l.filterMap f) ∧ (∀ (α β : Type) (f : α → Option β), [].filterMap f = []) ∧ (∀ (α : Type) (l : List α) (i : Nat), l.toArray[i]? = l[i]?) ∧ (∀ (α : Type) (a : α) (l : List α), (a :: l)[0]? = some a) ∧ (∀ (α : Type) (a : α) (l : List α) (i : Nat), (a :: l)[i + 1]? = l[i]?) :=
  ⟨fun _ _ _ _ => List.cons_append, fun _ _ => List.nil_append _, fun _ _ => List.append_nil _, fun _ _ _ _ _ => List.filterMap_cons, fun _ _ _ => List.filterMap_nil, fun _ _ _ => List.getElem?_toArray, fun _ _ _ => List.getElem?_cons_zero, fun _ _ _ _ => List.getElem?_cons_succ⟩
theorem sgPHNaOpen : (∀ (α : Type) (l : List α) (i : Nat) (a : α), l.toArray.setIfInBounds i a = (l.set i a).toArray) ∧ (∀ (α : Type) (a b : α) (l : List α), (a :: l).set 0 b = b :: l) ∧ (∀ (α : Type) (a b : α) (l : List α) (i : Nat), (a :: l).set (i + 1) b = a :: l.set i b) :=
  ⟨fun _ _ _ _ => List.setIfInBounds_toArray _ _ _, fun _ _ _ _ => List.set_cons_zero, fun _ _ _ _ _ => List.set_cons_succ⟩
end Go.Proofs.YtojnlmfahgeidaaGreatDoor
namespace Go.Proofs.YtojnlmfahgeidaaGreatDoor
open Go Go.RowKit Go.Nam
set_option linter.unusedSimpArgs false
set_option linter.unusedVariables false
theorem eq_alk_at (d : Nat) (a b : Int) (S R : ByteArray) (w : World) : (Op.equalIn (d + 1 + 1) 36 (.agg #[.int .i64 a, .string S]) (.agg #[.int .i64 b, .string R])).run Tryz.prog w = .ok (decide (a = b) && decide (S = R)) w := by
  have h1 : ∀ x y : Int, (Op.equalIn (d + 1) 3 (.int .i64 x) (.int .i64 y)).run Tryz.prog w = .ok (x == y) w := fun x y => by simp [Op.equalIn, run_underlying Tryz.underlying3]
  have h2 : ∀ x y : ByteArray, (Op.equalIn (d + 1) 9 (.string x) (.string y)).run Tryz.prog w = .ok (x == y) w := fun x y => by simp [Op.equalIn, run_underlying Tryz.underlying9]
  have p1 : ∀ (x : Int) (y : ByteArray), (part 3 #[.int .i64 x, .string y] 0).run Tryz.prog w = .ok (.int .i64 x) w := fun x y => by simp [part, isAgg, run_underlying Tryz.underlying3]
  have p2 : ∀ (x : Int) (y : ByteArray), (part 9 #[.int .i64 x, .string y] 1).run Tryz.prog w = .ok (.string y) w := fun x y => by simp [part, isAgg, run_underlying Tryz.underlying9]
  rw [Op.equalIn]
  simp only [Sem.run_bind, run_underlying Tryz.underlying36, Result.andThen_ok]
  by_cases e : a = b
  · subst e
    by_cases e2 : S = R
    · simp [Op.eqFields, p1, p2, h1, h2, sy_beq, e2]
    · simp [Op.eqFields, p1, p2, h1, h2, sy_beq, e2]
  · simp [Op.eqFields, p1, p2, h1, h2, e]
theorem eq_alk_same (a : Int) (S : ByteArray) (w : World) : (Op.equalIn 10000 36 (.agg #[.int .i64 a, .string S]) (.agg #[.int .i64 a, .string S])).run Tryz.prog w = .ok true w := by
  rw [eq_alk_at 9998]
  simp
/-- a slice of texts -/
def IsT7 (w : World) (a : Option Addr) (L : List ByteArray) : Prop := ∀ j, j < L.length → ∃ g o, a = some ⟨g, o, none⟩ ∧ g < w.heap.size ∧ w.cell? ⟨g, o + j, none⟩ = some (.string (L.getD j ⟨#[]⟩))
theorem IsT7.below {w w' : World} {a : Option Addr} {L : List ByteArray} (h : IsT7 w a L) (hb : Below w.heap.size w w') : IsT7 w' a L := fun j hj => by
  obtain ⟨g, o, h1, h2, h3⟩ := h j hj
  exact ⟨g, o, h1, Nat.lt_of_lt_of_le h2 hb.size, (hb.cell (p := ⟨g, o + j, none⟩) h2).trans h3⟩
theorem IsT7.cs {w : World} {g o j : Nat} {L : List ByteArray} (h : IsT7 w (some ⟨g, o, none⟩) L) (hj : j < L.length) : w.cell? ⟨g, o + j, none⟩ = some (.string (L.getD j ⟨#[]⟩)) := by
  obtain ⟨g', o', h1, _, h3⟩ := h j hj
  injection h1 with h1
  injection h1 with e1 e2 _
  subst e1 e2
  exact h3
theorem own_t7 {w : World} {B n : Nat} {v : Value} {L : List ByteArray} (h : w.ownsRow B 9 1 v n (L.map Value.string)) : ∃ a c, v = .slice a n c ∧ IsT7 w a L ∧ n = L.length := by
  have hl := h.1
  rw [List.length_map, Nat.mul_one] at hl
  rcases h.2 with ⟨hv, hn⟩ | ⟨g, cap, cur, hv, hB, hg, hrest⟩
  · exact ⟨none, 0, by rw [hv, hn], fun j hj => by omega, hl.symm⟩
  · refine ⟨some ⟨g, 0, none⟩, cap, hv, fun j hj => ⟨g, 0, rfl, (Array.getElem?_eq_some_iff.1 hg).1, ?_⟩, hl.symm⟩
    subst hv
    rw [Nat.zero_add, h.cellAt j (by omega), List.getElem?_map, List.getElem?_eq_getElem hj]
    simp [List.getD, List.getElem?_eq_getElem hj]
/-- what stands behind the calls -/
structure AQ (w0 W : World) (gl gs gy x mf ml mc : Nat) (cp : Option Addr) (A : Nat → Option Addr) (K C T : Nat → Nat) (N : Nat → Nat → Int) (S : Nat → Nat → ByteArray) (ai : Int) (sn : ByteArray) (yi : Int) (ys : ByteArray) (t : Option Addr) (L : List ByteArray) : Prop where
  dl : DL w0 W gs x mf ml mc cp A K C T N S
  lk : Blk W gl 36 #[.int .i64 ai, .string sn]
  ly : Blk W gy 36 #[.int .i64 yi, .string ys]
  tx : IsT7 W t L
theorem AQ.below {w0 W W' : World} {gl gs gy x mf ml mc : Nat} {cp : Option Addr} {A : Nat → Option Addr} {K C T : Nat → Nat} {N : Nat → Nat → Int} {S : Nat → Nat → ByteArray} {ai : Int} {sn : ByteArray} {yi : Int} {ys : ByteArray} {t : Option Addr} {L : List ByteArray} (h : AQ w0 W gl gs gy x mf ml mc cp A K C T N S ai sn yi ys t L) (hb : Below W.heap.size W W') : AQ w0 W' gl gs gy x mf ml mc cp A K C T N S ai sn yi ys t L :=
  ⟨h.dl.below hb, h.lk.below hb h.lk.lt, h.ly.below hb h.ly.lt, h.tx.below hb⟩
set_option maxRecDepth 100000 in
set_option maxHeartbeats 32000000 in
theorem dirAsksLaw (a : Option Addr) (n c : Nat) (hn : n ≤ 9223372036854775807) (X : Nat → A7) (hX : ∀ i, i < n → (X i).ok) (nn : Int) (hnn : -9223372036854775808 ≤ nn ∧ nn ≤ 9223372036854775807) (ai : Int) (sn : ByteArray) (w : World) (hI : IsA17 w a n X) :
    Calls Tryz.prog 4 #[.slice a n c, .int .i64 nn, .agg #[.int .i64 ai, .string sn]] w fun e w' => e = .returned (.bool true) ∧ Below w.heap.size w w' := by
  have p0 : Blk (w.alloc (.cells #[.int .i64 ai, .string sn] 36)) w.heap.size 36 #[.int .i64 ai, .string sn] := Blk.new _ _ _
  have hb0 : Below w.heap.size w (w.alloc (.cells #[.int .i64 ai, .string sn] 36)) := below_new1 _ _
  have HIA : Hid (IsA17 (w.alloc (.cells #[.int .i64 ai, .string sn] 36)) a n X ∧ ∀ i, i < n → (X i).ok) := ⟨hI.below hb0, hX⟩
  have HP0 : Hid (Blk (w.alloc (.cells #[.int .i64 ai, .string sn] 36)) w.heap.size 36 #[.int .i64 ai, .string sn] ∧ Below w.heap.size w (w.alloc (.cells #[.int .i64 ai, .string sn] 36))) := ⟨p0, hb0⟩
  have HBG := begun17_any (w.alloc (.cells #[.int .i64 ai, .string sn] 36))
  have HNN : Hid (-9223372036854775808 ≤ nn ∧ nn ≤ 9223372036854775807) := hnn
  clear hI hX p0 hb0 hnn
  go_enter Tryz.func4, Tryz.ntmps4
  go_wp2_with fail
  generalize (w.alloc (.cells #[.int .i64 ai, .string sn] 36)) = w0 at *
  have HAW : Hid (∀ V : World, Calls Tryz.prog 11 #[] V fun e w' => e = .returned (.bool true) ∧ Below V.heap.size V w') := awake17_any
  refine HBG.mono ?_
  rintro e w1 ⟨x, mf, ml, mc, cp, rfl, hB⟩
  have HD1 : Hid (DL w0 (w1.alloc (.cells #[.slice none 0 0, .slice none 0 0, .slice none 0 0, .int .u64 0, .int .u64 1, .int .u64 1] 31)) w1.heap.size x mf ml mc cp (fun _ => none) (fun _ => 0) (fun _ => 0) (fun _ => 1) (fun _ _ => 0) (fun _ _ => ⟨#[]⟩)) := DL.begin hB
  clear HBG hB
  go_wp2_with fail
  generalize (w1.alloc (.cells #[.slice none 0 0, .slice none 0 0, .slice none 0 0, .int .u64 0, .int .u64 1, .int .u64 1] 31)) = w2 at *
  generalize w1.heap.size = gs at *
  refine (HAW.out _).mono ?_
  rintro e w3 ⟨rfl, hb3⟩
  have HD3 : Hid (DL w0 w3 gs x mf ml mc cp (fun _ => none) (fun _ => 0) (fun _ => 0) (fun _ => 1) (fun _ _ => 0) (fun _ _ => ⟨#[]⟩)) := HD1.out.below hb3
  clear HD1 HAW hb3
  go_wp2_with fail
  go_loopw [8, 10] (fun v4 v6 wr => Hid (∃ (i : Nat) (A : Nat → Option Addr) (K C T : Nat → Nat) (N : Nat → Nat → Int) (S : Nat → Nat → ByteArray), i ≤ n ∧ v4 = .bool true ∧ v6 = .int .i64 (i : Int) ∧ DL w0 wr gs x mf ml mc cp A K C T N S)) (fun _ v6 _ => n - (intOf v6).toNat)
  case atStart => exact ⟨0, _, _, _, _, _, _, Nat.zero_le _, rfl, rfl, HD3.out⟩
  case round =>
    obtain ⟨i, A, K, C, T, N, S, hi, rfl, rfl, hg⟩ := Hid.out hrel
    have HG : Hid (DL w0 wr gs x mf ml mc cp A K C T N S) := hg
    clear hrel hg HD3
    by_cases hin : i < n
    · have i1 : (i : Int) < (n : Int) := by omega
      have i0 : (0 : Int) ≤ (i : Int) := by omega
      obtain ⟨b1, o1, ea, _⟩ := HIA.out.1 i hin
      subst ea
      have hsd : Blk wr.drew gs 31 (sdC A K C T) := HG.out.sd.drew
      have HA8 : Hid (IsA17 wr.drew (some ⟨b1, o1, none⟩) n X) := (HIA.out.1.below HG.out.bl).below (Below.refl _ _).drew
      have hok := HIA.out.2 i hin
      obtain ⟨⟨KI, DI, II, SI, TI⟩, eX⟩ : ∃ y, X i = y := ⟨_, rfl⟩
      rw [eX] at hok
      have HG' : Hid (DL w0 wr.drew gs x mf ml mc cp A K C T N S) := HG.out.below (Below.refl _ _).drew
      clear HG
      have HG : Hid (DL w0 wr.drew gs x mf ml mc cp A K C T N S) := HG'.out
      clear HG'
      have H8 := HG.out.pd.one KI DI II TI SI hok.2.1
      clear hok
      go_wp2_with fail
      refine wp_region_plan (fun U => Hid (IsA17 U (some ⟨b1, o1, none⟩) n X)) (.yield [0, 2, 3, 4] 5 (.force [] 1 (.force [] 6 (.yield [7, 8] 9 (.force [] 10 (.fin [11])))))) (by kernel_rfl) (by kernel_rfl) HA8 (plan_yield ?_)
      simp only [sgLHNaOpen]
      go_wp2_with fail
      refine ⟨rfl, _, .agg (aeC KI DI II SI ((TI : Nat) : Int)), rfl, Or.inl ⟨by rfl, fun W hW => by obtain ⟨q1, q2, q3, q4, q5⟩ := (Hid.out hW).cs hin; rw [eX] at q1 q2 q3 q4 q5; go_simp; rfl⟩, plan_force ?_⟩
      simp only [Act.put, sgPHNaOpen]
      simp only [sgLHNaOpen]
      clear eX
      refine wpList_load_row (by rfl) 31 _ (by rfl) (gs) (by rfl) 31 (sdC A K C T) (0, 0) _ (by exact hsd) Tryz.underlying31 (by rfl) (size_sd.trans (by rfl)) ?_
      simp only [Act.put, sgPHNaOpen]
      go_wp2_with fail
      refine ⟨rfl, HA8, plan_force ?_⟩
      simp only [sgLHNaOpen]
      go_wp2_with fail
      refine H8.mono ?_
      rintro e w9 ⟨A9, K9, C9, T9, N9, S9, rfl, hp9, hT9⟩
      obtain ⟨hD9, hs9, hb9⟩ := HG.out.did hp9 hT9
      have HD9 : Hid (DL w0 (w9.setRow gs (sdC A9 K9 C9 T9)) gs x mf ml mc cp A9 K9 C9 T9 N9 S9) := hD9
      have HA9 : Hid (IsA17 w9 (some ⟨b1, o1, none⟩) n X) := HIA.out.1.below hb9
      have HA10 : Hid (IsA17 (w9.setRow gs (sdC A9 K9 C9 T9)) (some ⟨b1, o1, none⟩) n X) := HIA.out.1.below hD9.bl
      clear hp9 hT9 hD9 hb9 H8 HA8
      go_wp2_with fail
      refine ⟨rfl, HA9, plan_yield ?_⟩
      simp only [sgLHNaOpen]
      go_wp2_with fail
      refine ⟨rfl, _, .bool true, rfl, Or.inl ⟨by rfl, fun W hW => by go_simp⟩, plan_force ?_⟩
      simp only [Act.put, sgPHNaOpen]
      simp only [sgLHNaOpen]
      refine wpList_store_row (by rfl) 31 _ _ (by rfl) (gs) (sdC A9 K9 C9 T9) (by rfl) (by rfl) 31 (sdC A K C T) (by exact hs9) (size_sd.trans (by rfl)) (by rfl) (sd_all _ _ _ _) ?_
      simp only [Act.put, sgPHNaOpen]
      go_wp2_with fail
      refine ⟨rfl, HA10, plan_fin ?_⟩
      simp only [sgLHNaOpen]
      go_wp2_with fail
      refine ⟨rfl, ?_⟩
      go_wp2_with fail
      go_wp2_with fail
      go_roundw
      case rel => exact ⟨i + 1, A9, K9, C9, T9, N9, S9, by omega, rfl, by first | rfl | go_num | simp, HD9.out⟩
      case measure => simp [intOf]; omega
    · have i1 : ¬ (i : Int) < (n : Int) := by omega
      by_cases hz : refD nn = 0
      · as_aux_lemma =>
        obtain ⟨d, ed, hd⟩ : ∃ d : Nat, nn = (d : Int) ∧ (d = 1 ∨ d = 2) := by
          rcases refD_zero hz with e | e
          · exact ⟨1, e, .inl rfl⟩
          · exact ⟨2, e, .inr rfl⟩
        subst ed
        obtain ⟨H, D, hI, h3, hD⟩ := HG.out.pd.im
        have hDd := hD d hd
        have hle := hDd.le
        have kl : (K d : Int) ≤ 16384 := by omega
        have g0 : (0 : Int) ≤ (d : Int) := by omega
        have g3 : (d : Int) < 3 := by omega
        have p1 := HP0.out.1.below HG.out.bl HP0.out.1.lt
        have HBW : Hid (Below w.heap.size w wr) := HP0.out.2.trans (HG.out.bl.mono HP0.out.2.size)
        have HIV : Hid (∀ V, Below wr.heap.size wr V → IM V x mf ml mc cp 3 H D ∧ Di H D d (K d) (T d) (N d) (S d)) := fun V hV => ⟨hI.below hV, hDd⟩
        obtain ⟨p, hp⟩ := first_ex (S d) sn (K d)
        obtain ⟨isn, hisn⟩ : ∃ b, isName sn.data.toList = b := ⟨_, rfl⟩
        obtain ⟨r0, r1, er, HF, HFR⟩ : ∃ (r0 r1 er : Int), Hid (∀ V, Below wr.heap.size wr V → Calls Tryz.prog 14 #[.pointer (some ⟨x, 0, none⟩), .int .i64 (d : Int), .string sn] V fun e w' => e = .returned (.tuple #[.int .i64 r0, .int .i64 r1, .int .i64 er]) ∧ Below V.heap.size V w') ∧ Hid ((isn = false ∧ er = 130 ∧ r0 = 0 ∧ r1 = 0) ∨ (isn = true ∧ ¬ p < K d ∧ er = 171 ∧ r0 = 0 ∧ r1 = 0) ∨ (isn = true ∧ p < K d ∧ er = 0 ∧ r0 = N d p ∧ r1 = (p : Int))) := by
          cases isn
          · exact ⟨0, 0, 130, fun V hV => (HIV.out V hV).1.findBad (HIV.out V hV).2 sn hisn, .inl ⟨rfl, rfl, rfl, rfl⟩⟩
          · by_cases hpk : p < K d
            · exact ⟨N d p, (p : Int), 0, fun V hV => (HIV.out V hV).1.findD (HIV.out V hV).2 sn hisn p hp _ _ _ (by rw [if_pos hpk]) (by rw [if_pos hpk]) (by rw [if_pos hpk]), .inr (.inr ⟨rfl, hpk, rfl, rfl, rfl⟩)⟩
            · exact ⟨0, 0, 171, fun V hV => (HIV.out V hV).1.findD (HIV.out V hV).2 sn hisn p hp _ _ _ (by rw [if_neg hpk]) (by rw [if_neg hpk]) (by rw [if_neg hpk]), .inr (.inl ⟨rfl, hpk, rfl, rfl, rfl⟩)⟩
        obtain ⟨bA, hbA⟩ : ∃ b, decide (ai < 0 ∨ (K d : Int) ≤ ai) = b := ⟨_, rfl⟩
        obtain ⟨yi, ys, ey, HE, HER⟩ : ∃ (yi : Int) (ys : ByteArray) (ey : Int), Hid (∀ V, Below wr.heap.size wr V → Calls Tryz.prog 15 #[.pointer (some ⟨x, 0, none⟩), .int .i64 (d : Int), .int .i64 ai] V fun e w' => e = .returned (.tuple #[.agg #[.int .i64 yi, .string ys], .int .i64 ey]) ∧ Below V.heap.size V w') ∧ Hid ((bA = true ∧ yi = 0 ∧ ys = ⟨#[]⟩ ∧ ey = 90) ∨ (bA = false ∧ yi = N d ai.toNat ∧ ys = S d ai.toNat ∧ ey = 0)) := by
          by_cases hb : ai < 0 ∨ (K d : Int) ≤ ai
          · rw [decide_eq_true hb] at hbA
            exact ⟨0, ⟨#[]⟩, 90, fun V hV => (HIV.out V hV).1.entryNo (HIV.out V hV).2 ai hb, .inl ⟨hbA.symm, rfl, rfl, rfl⟩⟩
          · rw [decide_eq_false hb] at hbA
            refine ⟨_, _, 0, fun V hV => ?_, .inr ⟨hbA.symm, rfl, rfl, rfl⟩⟩
            have h := (HIV.out V hV).1.entryD (HIV.out V hV).2 ai.toNat (by omega)
            rw [show ((ai.toNat : Nat) : Int) = ai by omega] at h
            exact h
        have HN : Hid (∀ V, Below wr.heap.size wr V → Calls Tryz.prog 16 #[.pointer (some ⟨x, 0, none⟩), .int .i64 (d : Int), .int .i64 ai] V fun e w' => ∃ v R, e = .returned (.tuple #[v, .int .i64 0]) ∧ w'.ownsRow V.heap.size 9 1 v R.length ((R.map Prod.snd).map Value.string) ∧ SoR R ∧ R.Perm ((liR (N d) (S d) (K d)).filter fun y => decide (y.1 = ai)) ∧ Below V.heap.size V w') := fun V hV => (HIV.out V hV).1.namesD (HIV.out V hV).2 ai
        have HL : Hid (∀ V, Below wr.heap.size wr V → Calls Tryz.prog 17 #[.pointer (some ⟨x, 0, none⟩), .int .i64 (d : Int)] V fun e w' => ∃ v, e = .returned (.tuple #[v, .int .i64 0]) ∧ Below V.heap.size V w') := fun V hV => ((HIV.out V hV).1.listD (HIV.out V hV).2).mono fun e w' ⟨v, R, h1, _, _, _, h2⟩ => ⟨v, h1, h2⟩
        have HC : Hid (∀ V, Below wr.heap.size wr V → Calls Tryz.prog 18 #[.pointer (some ⟨x, 0, none⟩), .int .i64 (d : Int)] V fun e w' => e = .returned (.tuple #[.int .i64 (K d : Int), .int .i64 0]) ∧ Below V.heap.size V w') := fun V hV => (HIV.out V hV).1.countD (HIV.out V hV).2
        have HRR : Hid (∀ V : World, Calls Tryz.prog 19 #[.int .i64 (d : Int)] V fun e w' => e = .returned (.int .i64 0) ∧ w' = V) := fun V => by
          have h := refused_any (d : Int) V
          rw [hz] at h
          exact h
        have HIS : Hid (∀ V : World, Calls Tryz.prog 21 #[.string sn] V fun e w' => e = .returned (.bool isn) ∧ w' = V) := fun V => by
          have h := is_any sn V
          rw [hisn] at h
          exact h
        obtain ⟨dm, dp, HDF, HDR⟩ : ∃ (dm dp : Int), Hid (∀ V, IsLkC V (A d) (K d) (N d) (S d) → Calls Tryz.prog 20 #[.slice (A d) (K d) (C d), .string sn] V fun e w' => e = .returned (.tuple #[.int .i64 dm, .int .i64 dp]) ∧ w' = V) ∧ Hid ((p < K d → dm = N d p ∧ dp = (p : Int)) ∧ (¬ p < K d → dm = 0 ∧ dp = -1)) := by
          refine ⟨_, _, fun V hV => rfind17_any (A d) (K d) (C d) p (by omega) (N d) (S d) sn hp _ _ rfl rfl V hV, fun h => ⟨if_pos h, if_pos h⟩, fun h => ⟨if_neg h, if_neg h⟩⟩
        have HNS : Hid (∀ i, i < K d → (S d i).size ≤ 9223372036854775807) := fun i hi => enc_size (hDd.ok i hi)
        have HLK : Hid (∀ (i : Int) (s : ByteArray) (w : World), Calls Tryz.prog 22 #[.agg #[.int .i64 i, .string s]] w fun e w' => e = .returned (.agg #[.int .i64 i, .string s]) ∧ Below w.heap.size w w') := link17_any
        have HBA : Hid (decide (ai < 0 ∨ (K d : Int) ≤ ai) = bA) := hbA
        clear hI h3 hD hDd hz hisn hp hbA HIV
        have c1 := (p1.cell 1).trans rfl
        have H1 := HF.out wr (Below.refl _ _)
        clear HF
        go_wp2_with fail
        refine H1.mono ?_
        rintro e w10 ⟨rfl, hb10⟩
        have p10 := p1.below hb10 p1.lt
        have c0 := (p10.cell 0).trans rfl
        have H2 := HE.out w10 hb10
        clear HE H1 c1 p1
        go_wp2_with fail
        refine H2.mono ?_
        rintro e w11 ⟨rfl, hb11⟩
        have hb1 := hb10.trans (hb11.mono hb10.size)
        have p11 := p10.below hb11 p10.lt
        have p12 := p11.alloc (.cells #[.int .i64 yi, .string ys] 36)
        have y12 : Blk (w11.alloc (.cells #[.int .i64 yi, .string ys] 36)) w11.heap.size 36 #[.int .i64 yi, .string ys] := Blk.new _ _ _
        have hb2 : Below wr.heap.size wr (w11.alloc (.cells #[.int .i64 yi, .string ys] 36)) := hb1.alloc hb1.size _
        have H3 := HN.out _ hb2
        clear c0 H2 hb10 hb11 hb1 p10 p11 HN
        have c0 := (p12.cell 0).trans rfl
        go_wp2_with fail
        generalize (w11.alloc (.cells #[.int .i64 yi, .string ys] 36)) = w12 at *
        generalize w11.heap.size = gy at *
        refine H3.mono ?_
        rintro e w13 ⟨v, R, rfl, ho13, hso, hpe, hb13⟩
        obtain ⟨t, tc, rfl, ht13, hRl⟩ := own_t7 ho13
        have y13 := y12.below hb13 y12.lt
        have p13 := p12.below hb13 p12.lt
        have hb3 := hb2.trans (hb13.mono hb2.size)
        have HSR : Hid (SoR R ∧ R.Perm ((liR (N d) (S d) (K d)).filter fun y => decide (y.1 = ai))) := ⟨hso, hpe⟩
        have hRk : R.length ≤ 16384 := by
          have h1 := hpe.length_eq
          have h2 := List.length_filter_le (fun y : Lk => decide (y.1 = ai)) (liR (N d) (S d) (K d))
          rw [liR_len] at h2
          omega
        obtain ⟨L, hL⟩ : ∃ L, L = R.map Prod.snd := ⟨_, rfl⟩
        rw [← hL] at ht13
        obtain ⟨m, hm⟩ : ∃ m, m = R.length := ⟨_, rfl⟩
        have hmL : m = L.length := by rw [hm, hL, List.length_map]
        have HL7 : Hid (L = R.map Prod.snd ∧ m = R.length ∧ m = L.length) := ⟨hL, hm, hmL⟩
        rw [← hm] at hRk ⊢
        have mz : (m : Int) ≤ 16384 := by omega
        have H4 := HL.out _ hb3
        clear c0 H3 hb13 hb2 y12 p12 HL ho13 hso hpe hL hm hRl hmL
        go_wp2_with fail
        refine H4.mono ?_
        rintro e w14 ⟨v14, rfl, hb14⟩
        have y14 := y13.below hb14 y13.lt
        have p14 := p13.below hb14 p13.lt
        have t14 := ht13.below hb14
        have hb4 := hb3.trans (hb14.mono hb3.size)
        have H5 := HC.out _ hb4
        clear H4 hb14 hb3 y13 p13 ht13 HC
        go_wp2_with fail
        refine H5.mono ?_
        rintro e w15 ⟨rfl, hb15⟩
        have hb5 := hb4.trans (hb15.mono hb4.size)
        have HQ : Hid (AQ w0 w15 w.heap.size gs gy x mf ml mc cp A K C T N S ai sn yi ys t L) := ⟨HG.out.below hb5, p14.below hb15 p14.lt, y14.below hb15 y14.lt, t14.below hb15⟩
        clear H5 hb15 hb4 hb5 y14 p14 t14 HBW HG
        go_wp2_with fail
        refine (HRR.out _).mono ?_
        rintro e w16 ⟨rfl, hw⟩
        subst w16
        clear HRR
        have hS15 : AQ w0 w15.drew w.heap.size gs gy x mf ml mc cp A K C T N S ai sn yi ys t L := HQ.out.below (Below.refl _ _).drew
        have c1 : w15.drew.cell? ⟨w.heap.size, 1, none⟩ = some (.string sn) := (hS15.lk.cell 1).trans rfl
        have H6 := HDF.out w15.drew (hS15.dl.pd.ls d hd).1
        clear HQ
        go_wp2_with fail
        refine wp_region_partsS (fun U => AQ w0 U w.heap.size gs gy x mf ml mc cp A K C T N S ai sn yi ys t L) [([0], 1, true), ([2], 3, true), ([], 4, false), ([], 5, false), ([], 6, false)] [7, 8, 9, 10, 11] [] (by kernel_rfl) (by kernel_rfl) hS15 (partsI_yield ?_)
        simp only [sgLHNaOpen]
        go_wp2_with fail
        refine ⟨rfl, _, .pointer (some ⟨gs, 0, none⟩), rfl, Or.inl ⟨by rfl, fun W hW => by go_simp⟩, partsI_yield ?_⟩
        simp only [Act.put, sgPHNaOpen]
        simp only [sgLHNaOpen]
        go_wp2_with fail
        refine ⟨rfl, _, .slice (A d) (K d) (C d), rfl, Or.inl ⟨by rfl, fun W hW => by obtain ⟨q1, q2⟩ := sd_cs hW.dl.sd hd; go_simp⟩, partsI_force ?_⟩
        simp only [Act.put, sgPHNaOpen]
        simp only [sgLHNaOpen]
        go_wp2_with fail
        refine ⟨rfl, hS15, partsI_force ?_⟩
        simp only [sgLHNaOpen]
        go_wp2_with fail
        refine ⟨rfl, hS15, partsI_force ?_⟩
        simp only [sgLHNaOpen]
        go_wp2_with fail
        refine H6.mono ?_
        rintro e w17 ⟨rfl, hw⟩
        subst hw
        clear H6
        go_wp2_with fail
        refine ⟨rfl, hS15, partsI_last ?_⟩
        simp only [sgLHNaOpen]
        go_wp2_with fail
        refine ⟨rfl, ?_⟩
        generalize w15.drew = w17 at *
        clear HDF
        go_wp2_with fail
        refine (HIS.out _).mono ?_
        rintro e w18 ⟨rfl, hw⟩
        subst w18
        clear c1 HIS
        have pz : ¬ (p : Int) < 0 := by omega
        go_upto_if 152 with fail
        go_cut [] (fun wx => w17 = wx)
        case first =>
          have HD2 := HDR.out
          rcases HFR.out with ⟨h1, h2, h3, h4⟩ | ⟨h1, h2, h3, h4, h5⟩ | ⟨h1, h2, h3, h4, h5⟩
          · as_aux_lemma =>
            subst h1 h2 h3 h4
            clear HD2
            go_wp2_with fail
            go_meet
            exact rfl
          · as_aux_lemma =>
            obtain ⟨e1, e2⟩ := HD2.2 h2
            clear HD2
            subst h1 h3 h4 h5 e1 e2
            go_wp2_with fail
            go_meet
            exact rfl
          · as_aux_lemma =>
            obtain ⟨e1, e2⟩ := HD2.1 h2
            clear HD2
            subst h1 h3 h4 h5 e1 e2
            go_wp2_with fail
            go_meet
            exact rfl
        case rest =>
          obtain rfl := hcut
          clear HFR HDR pz
          have hN17 : Hid (∀ q, AQ w0 (w17.drewN q) w.heap.size gs gy x mf ml mc cp A K C T N S ai sn yi ys t L) := fun q => hS15.below ⟨rfl, rfl, rfl, Nat.le_refl _, fun _ _ => rfl⟩
          go_upto_region 28 with fail
          go_cut [199] (fun v wx => v = .bool bA ∧ Hid (AQ w0 wx w.heap.size gs gy x mf ml mc cp A K C T N S ai sn yi ys t L))
          case first =>
            have c0 : w17.cell? ⟨w.heap.size, 0, none⟩ = some (.int .i64 ai) := (hS15.lk.cell 0).trans rfl
            obtain ⟨q1, q2⟩ := sd_cs hS15.dl.sd hd
            have HBB := HBA.out
            clear hS15
            by_cases h1 : ai < 0
            · as_aux_lemma =>
              rw [decide_eq_true (.inl h1)] at HBB
              subst HBB
              go_quiet (fail)
              go_wp2_with fail
              go_meet
              exact ⟨rfl, hN17.out _⟩
            · by_cases h2 : (K d : Int) ≤ ai
              · as_aux_lemma =>
                rw [decide_eq_true (.inr h2)] at HBB
                subst HBB
                go_quiet (fail)
                go_wp2_with fail
                go_meet
                exact ⟨rfl, hN17.out _⟩
              · as_aux_lemma =>
                rw [decide_eq_false (by omega)] at HBB
                subst HBB
                go_quiet (fail)
                go_wp2_with fail
                go_meet
                exact ⟨rfl, hN17.out _⟩
          case rest =>
            obtain ⟨rfl, hqx⟩ := hcut
            clear hS15 hN17
            have HQX : Hid (AQ w0 wc w.heap.size gs gy x mf ml mc cp A K C T N S ai sn yi ys t L) := hqx
            clear hqx
            go_upto_if 199 with fail
            go_cut [] (fun wy => Hid (AQ w0 wy w.heap.size gs gy x mf ml mc cp A K C T N S ai sn yi ys t L))
            case first =>
              cases bA
              · as_aux_lemma =>
                obtain ⟨h1, h2, h3, h4⟩ : false = false ∧ yi = N d ai.toNat ∧ ys = S d ai.toNat ∧ ey = 0 := by
                  rcases HER.out with h | h
                  · exact absurd h.1 (by decide)
                  · exact h
                have hj : ¬ (ai < 0 ∨ (K d : Int) ≤ ai) := of_decide_eq_false HBA.out
                obtain ⟨j, hja⟩ : ∃ j : Nat, ai = (j : Int) := ⟨ai.toNat, by omega⟩
                have hin2 : j < K d := by omega
                have i1 : (j : Int) < (K d : Int) := by omega
                have i0 : (0 : Int) ≤ (j : Int) := by omega
                subst hja
                rw [Int.toNat_natCast] at h2 h3
                subst h2 h3 h4
                have heq := eq_rlk_same
                clear hj h1 HBA HER
                obtain ⟨b3, o3, e3, _⟩ := (HQX.out.dl.pd.ls d hd).1 j hin2
                have E3 : Hid (A d = some ⟨b3, o3, none⟩) := e3
                clear e3
                have hS0 : AQ w0 wc.drew w.heap.size gs gy x mf ml mc cp A K C T N S (j : Int) sn (N d j) (S d j) t L := HQX.out.below (Below.refl _ _).drew
                go_wp2_with fail
                refine wp_region_partsS (fun U => AQ w0 U w.heap.size gs gy x mf ml mc cp A K C T N S (j : Int) sn (N d j) (S d j) t L) [([0], 1, false), ([2, 5], 3, true), ([], 6, true), ([7], 8, true), ([], 9, true), ([], 10, true), ([11], 12, true), ([], 4, false), ([], 13, false)] [14] [] (by kernel_rfl) (by kernel_rfl) hS0 (partsI_force ?_)
                simp only [sgLHNaOpen]
                go_wp2_with fail
                refine ⟨rfl, hS0, partsI_yield ?_⟩
                simp only [sgLHNaOpen]
                go_wp2_with fail
                refine ⟨rfl, _, .agg #[.int .i64 (N d j), .string (S d j)], rfl, Or.inl ⟨by rfl, fun W hW => by have q1 := (hW.ly.cell 0).trans rfl; have q2 := (hW.ly.cell 1).trans rfl; go_simp⟩, partsI_yield ?_⟩
                simp only [Act.put, sgPHNaOpen]
                simp only [sgLHNaOpen]
                go_wp2_with fail
                refine ⟨rfl, _, .pointer (some ⟨gs, 0, none⟩), rfl, Or.inl ⟨by rfl, fun W hW => by go_simp⟩, partsI_yield ?_⟩
                simp only [Act.put, sgPHNaOpen]
                simp only [sgLHNaOpen]
                go_wp2_with fail
                refine ⟨rfl, _, .slice (some ⟨b3, o3, none⟩) (K d) (C d), rfl, Or.inl ⟨by rfl, fun W hW => by obtain ⟨q1, q2⟩ := sd_cs hW.dl.sd hd; rw [E3.out] at q1; go_simp⟩, partsI_yield ?_⟩
                simp only [Act.put, sgPHNaOpen]
                simp only [sgLHNaOpen]
                go_wp2_with fail
                refine ⟨rfl, _, .pointer (some ⟨w.heap.size, 0, none⟩), rfl, Or.inl ⟨by rfl, fun W hW => by go_simp⟩, partsI_yield ?_⟩
                simp only [Act.put, sgPHNaOpen]
                simp only [sgLHNaOpen]
                go_wp2_with fail
                refine ⟨rfl, _, .int .i64 (j : Int), rfl, Or.inl ⟨by rfl, fun W hW => by have q1 := (hW.lk.cell 0).trans rfl; go_simp⟩, partsI_yield ?_⟩
                simp only [Act.put, sgPHNaOpen]
                simp only [sgLHNaOpen]
                go_wp2_with fail
                refine ⟨rfl, _, .agg #[.int .i64 (N d j), .string (S d j)], rfl, Or.inl ⟨by rfl, fun W hW => by obtain ⟨q1, q2⟩ := (E3.out ▸ (hW.dl.pd.ls d hd).1 : IsLkC W (some ⟨b3, o3, none⟩) (K d) (N d) (S d)).cs hin2; go_simp⟩, partsI_force ?_⟩
                simp only [Act.put, sgPHNaOpen]
                simp only [sgLHNaOpen]
                go_wp2_with fail
                refine (HLK.out _ _ _).mono ?_
                rintro e w8 ⟨rfl, hb8⟩
                have hS8 : AQ w0 w8 w.heap.size gs gy x mf ml mc cp A K C T N S (j : Int) sn (N d j) (S d j) t L := hS0.below hb8
                clear hb8
                go_wp2_with fail
                refine ⟨rfl, hS8, partsI_force ?_⟩
                simp only [sgLHNaOpen]
                go_wp2_with fail
                refine ⟨rfl, hS8, partsI_last ?_⟩
                simp only [sgLHNaOpen]
                go_wp2_with fail
                refine ⟨rfl, ?_⟩
                go_wp2_with fail
                go_meet
                exact hS8
              · as_aux_lemma =>
                obtain ⟨h1, h2, h3, h4⟩ : true = true ∧ yi = 0 ∧ ys = ⟨#[]⟩ ∧ ey = 90 := by
                  rcases HER.out with h | h
                  · exact h
                  · exact absurd h.1 (by decide)
                subst h2 h3 h4
                have heq := eq_alk_same
                have d0 := (HQX.out.ly.cell 0).trans rfl
                have d1 := (HQX.out.ly.cell 1).trans rfl
                clear h1 HBA HER
                go_wp2_with fail
                go_meet
                exact HQX.out
            case rest =>
              have HQY : Hid (AQ w0 wc w.heap.size gs gy x mf ml mc cp A K C T N S ai sn yi ys t L) := hcut
              clear hcut HQX HER HBA
              have HDN : Hid (∀ V, IsLkC V (A d) (K d) (N d) (S d) → Calls Tryz.prog 23 #[.slice (A d) (K d) (C d), .int .i64 ai] V fun e w' => ∃ v R, e = .returned v ∧ w'.ownsRow V.heap.size 9 1 v R.length ((R.map Prod.snd).map Value.string) ∧ SoR R ∧ R.Perm ((liR (N d) (S d) (K d)).filter fun y => decide (y.1 = ai)) ∧ Below V.heap.size V w') := fun V hV => rnames17_any (A d) (K d) (C d) hle (N d) (S d) HNS.out ai V hV
              have hS0 : AQ w0 wc.drew w.heap.size gs gy x mf ml mc cp A K C T N S ai sn yi ys t L := HQY.out.below (Below.refl _ _).drew
              have c0 : wc.drew.cell? ⟨w.heap.size, 0, none⟩ = some (.int .i64 ai) := (hS0.lk.cell 0).trans rfl
              have H7 := HDN.out wc.drew (hS0.dl.pd.ls d hd).1
              clear HQY HDN HNS
              go_wp2_with fail
              refine wp_region_partsS (fun U => AQ w0 U w.heap.size gs gy x mf ml mc cp A K C T N S ai sn yi ys t L) [([0], 1, true), ([2], 3, true), ([], 4, false), ([], 5, false), ([], 6, false)] [7] [] (by kernel_rfl) (by kernel_rfl) hS0 (partsI_yield ?_)
              simp only [sgLHNaOpen]
              go_wp2_with fail
              refine ⟨rfl, _, .pointer (some ⟨gs, 0, none⟩), rfl, Or.inl ⟨by rfl, fun W hW => by go_simp⟩, partsI_yield ?_⟩
              simp only [Act.put, sgPHNaOpen]
              simp only [sgLHNaOpen]
              go_wp2_with fail
              refine ⟨rfl, _, .slice (A d) (K d) (C d), rfl, Or.inl ⟨by rfl, fun W hW => by obtain ⟨q1, q2⟩ := sd_cs hW.dl.sd hd; go_simp⟩, partsI_force ?_⟩
              simp only [Act.put, sgPHNaOpen]
              simp only [sgLHNaOpen]
              go_wp2_with fail
              refine ⟨rfl, hS0, partsI_force ?_⟩
              simp only [sgLHNaOpen]
              go_wp2_with fail
              refine ⟨rfl, hS0, partsI_force ?_⟩
              simp only [sgLHNaOpen]
              go_wp2_with fail
              refine H7.mono ?_
              rintro e w8 ⟨v8, R8, rfl, ho8, hso8, hpe8, hb8⟩
              obtain ⟨aw, awc, rfl, ht8, hR8⟩ := own_t7 ho8
              have hRR : R8 = R := soR_eq hso8 HSR.out.1 (hpe8.trans HSR.out.2.symm)
              subst hRR
              have HTW : Hid (IsT7 w8 aw L) := by rw [HL7.out.1]; exact ht8
              have hS8 : AQ w0 w8 w.heap.size gs gy x mf ml mc cp A K C T N S ai sn yi ys t L := hS0.below hb8
              have hm8 := HL7.out.2.1
              rw [← hm8]
              clear hb8 ho8 hso8 hpe8 ht8 hR8 H7 hm8
              go_wp2_with fail
              refine ⟨rfl, hS8, partsI_last ?_⟩
              simp only [sgLHNaOpen]
              go_wp2_with fail
              refine ⟨rfl, ?_⟩
              clear c0
              go_wp2_with fail
              go_loopw [26] (fun v wr => Hid (∃ j : Nat, j ≤ m ∧ v = .int .i64 (j : Int) ∧ AQ w0 wr w.heap.size gs gy x mf ml mc cp A K C T N S ai sn yi ys t L ∧ IsT7 wr aw L)) (fun v _ => m - (intOf v).toNat)
              case atStart => exact ⟨0, Nat.zero_le _, rfl, hS8, HTW.out⟩
              case round =>
                obtain ⟨j, hj, rfl, hq9, ht9⟩ := Hid.out hrel
                have HQ9 : Hid (∀ q, AQ w0 (wr.drewN q) w.heap.size gs gy x mf ml mc cp A K C T N S ai sn yi ys t L ∧ IsT7 (wr.drewN q) aw L) := fun q => ⟨hq9.below ⟨rfl, rfl, rfl, Nat.le_refl _, fun _ _ => rfl⟩, ht9.below ⟨rfl, rfl, rfl, Nat.le_refl _, fun _ _ => rfl⟩⟩
                have HBE : Hid (Below w.heap.size w wr) := HP0.out.2.trans (hq9.dl.bl.mono HP0.out.2.size)
                by_cases hin3 : j < m
                · as_aux_lemma =>
                  have i1 : (j : Int) < (m : Int) := by omega
                  have i0 : (0 : Int) ≤ (j : Int) := by omega
                  have hjL : j < L.length := by have := HL7.out.2.2; omega
                  obtain ⟨b1, o1, e1, _, c1⟩ := hq9.tx j hjL
                  obtain ⟨b2, o2, e2, _, c2⟩ := ht9 j hjL
                  subst e1 e2
                  generalize L.getD j ⟨#[]⟩ = ut at *
                  clear hrel hq9 ht9 hS8 HTW
                  go_wp2_with fail
                  go_quiet (fail)
                  go_wp2_with fail
                  go_roundw
                  case rel => exact ⟨j + 1, by omega, by first | rfl | go_num | simp, (HQ9.out _).1, (HQ9.out _).2⟩
                  case measure => simp [intOf]; omega
                · as_aux_lemma =>
                  have i1 : ¬ (j : Int) < (m : Int) := by omega
                  clear hrel hq9 ht9 hS8 HTW HQ9
                  go_wp2_with fail
                  go_ret
                  exact ⟨rfl, HBE.out⟩
      · as_aux_lemma =>
        obtain ⟨H, D, hI, h3, hD⟩ := HG.out.pd.im
        have p1 := HP0.out.1.below HG.out.bl HP0.out.1.lt
        have HDR : Hid (∀ V, Below wr.heap.size wr V → Calls Tryz.prog 57 #[.pointer (some ⟨x, 0, none⟩), .int .i64 nn] V fun e w' => e = .returned (.tuple #[.agg nf0, .int .i64 (refD nn)]) ∧ Below V.heap.size V w') := fun V hV => (hI.below hV).dirRef h3 nn HNN.out hz
        have HBW : Hid (Below w.heap.size w wr) := HP0.out.2.trans (HG.out.bl.mono HP0.out.2.size)
        have HRF := fun V : World => refused_any nn V
        have heq := eq_alk_same
        clear HG hI h3 hD
        generalize refD nn = r at *
        have hr : r ≠ 0 := hz
        have HF : Hid (∀ V, Below wr.heap.size wr V → Calls Tryz.prog 14 #[.pointer (some ⟨x, 0, none⟩), .int .i64 nn, .string sn] V fun e w' => e = .returned (.tuple #[.int .i64 0, .int .i64 0, .int .i64 r]) ∧ Below V.heap.size V w') := fun V hV => find_err sn r hr fun U hU => HDR.out U (hV.trans (hU.mono hV.size))
        have HE : Hid (∀ V, Below wr.heap.size wr V → Calls Tryz.prog 15 #[.pointer (some ⟨x, 0, none⟩), .int .i64 nn, .int .i64 ai] V fun e w' => e = .returned (.tuple #[.agg #[.int .i64 0, .string ⟨#[]⟩], .int .i64 r]) ∧ Below V.heap.size V w') := fun V hV => entry_err ai r hr fun U hU => HDR.out U (hV.trans (hU.mono hV.size))
        have HN : Hid (∀ V, Below wr.heap.size wr V → Calls Tryz.prog 16 #[.pointer (some ⟨x, 0, none⟩), .int .i64 nn, .int .i64 ai] V fun e w' => e = .returned (.tuple #[.slice none 0 0, .int .i64 r]) ∧ Below V.heap.size V w') := fun V hV => names_err ai r hr fun U hU => HDR.out U (hV.trans (hU.mono hV.size))
        have HL : Hid (∀ V, Below wr.heap.size wr V → Calls Tryz.prog 17 #[.pointer (some ⟨x, 0, none⟩), .int .i64 nn] V fun e w' => e = .returned (.tuple #[.slice none 0 0, .int .i64 r]) ∧ Below V.heap.size V w') := fun V hV => list_err r hr fun U hU => HDR.out U (hV.trans (hU.mono hV.size))
        have HC : Hid (∀ V, Below wr.heap.size wr V → Calls Tryz.prog 18 #[.pointer (some ⟨x, 0, none⟩), .int .i64 nn] V fun e w' => e = .returned (.tuple #[.int .i64 0, .int .i64 r]) ∧ Below V.heap.size V w') := fun V hV => count_err r hr fun U hU => HDR.out U (hV.trans (hU.mono hV.size))
        have HRR : Hid (∀ V : World, Calls Tryz.prog 19 #[.int .i64 nn] V fun e w' => e = .returned (.int .i64 r) ∧ w' = V) := HRF
        clear HDR hz HRF
        have c1 := (p1.cell 1).trans rfl
        have H1 := HF.out wr (Below.refl _ _)
        clear HF
        go_wp2_with fail
        refine H1.mono ?_
        rintro e w10 ⟨rfl, hb10⟩
        have p10 := p1.below hb10 p1.lt
        have c0 := (p10.cell 0).trans rfl
        have H2 := HE.out w10 hb10
        clear HE H1 c1 p1
        go_wp2_with fail
        refine H2.mono ?_
        rintro e w11 ⟨rfl, hb11⟩
        have hb1 := hb10.trans (hb11.mono hb10.size)
        have p11 := p10.below hb11 p10.lt
        have p12 := p11.alloc (.cells #[.int .i64 0, .string ⟨#[]⟩] 36)
        have y12 : Blk (w11.alloc (.cells #[.int .i64 0, .string ⟨#[]⟩] 36)) w11.heap.size 36 #[.int .i64 0, .string ⟨#[]⟩] := Blk.new _ _ _
        have hb2 : Below wr.heap.size wr (w11.alloc (.cells #[.int .i64 0, .string ⟨#[]⟩] 36)) := hb1.alloc hb1.size _
        have H3 := HN.out _ hb2
        clear c0 H2 hb10 hb11 hb1 p10 p11 HN
        have c0 := (p12.cell 0).trans rfl
        go_wp2_with fail
        generalize (w11.alloc (.cells #[.int .i64 0, .string ⟨#[]⟩] 36)) = w12 at *
        generalize w11.heap.size = gy at *
        refine H3.mono ?_
        rintro e w13 ⟨rfl, hb13⟩
        have y13 := y12.below hb13 y12.lt
        have hb3 := hb2.trans (hb13.mono hb2.size)
        have H4 := HL.out _ hb3
        clear c0 H3 hb13 hb2 y12 p12 HL
        go_wp2_with fail
        refine H4.mono ?_
        rintro e w14 ⟨rfl, hb14⟩
        have y14 := y13.below hb14 y13.lt
        have hb4 := hb3.trans (hb14.mono hb3.size)
        have H5 := HC.out _ hb4
        clear H4 hb14 hb3 y13 HC
        go_wp2_with fail
        refine H5.mono ?_
        rintro e w15 ⟨rfl, hb15⟩
        have y15 := y14.below hb15 y14.lt
        have hb5 := hb4.trans (hb15.mono hb4.size)
        have HBE : Hid (Below w.heap.size w w15) := HBW.out.trans (hb5.mono HBW.out.size)
        clear H5 hb15 hb4 hb5 y14 HBW
        go_wp2_with fail
        refine (HRR.out _).mono ?_
        rintro e w16 ⟨rfl, hw⟩
        subst w16
        have d0 := (y15.cell 0).trans rfl
        have d1 := (y15.cell 1).trans rfl
        clear y15 HRR
        go_wp2_with fail
        go_ret
        exact ⟨rfl, HBE.out⟩
end Go.Proofs.YtojnlmfahgeidaaGreatDoor

namespace Go.Proofs.YtojnlmfahgeidaaGreatDoor
open Go.ChangeShapes Go.WideShapes Go.ChangeAt Go.RowKit Go.Joins
set_option linter.unusedVariables false
set_option maxRecDepth 100000 in
theorem open_link {H : Type} {enc : TypeId × Value → H} {W : World} {base : Nat} {v : Value} {d : DataW H} {p : List MemPlace} (hval : Value.okWide Tryz.prog W .any base 36 v)
    (h : DataW.Trod enc Tryz.prog W 0 (fun _ => true) true 36 v d p) : ∃ (i : Int) (s : ByteArray), v = .agg #[.int .i64 i, .string s] := by
  obtain ⟨c0, c1, y0, y1, m, rfl, rfl, rfl, hy0, hy1⟩ := open_agg2 Tryz.underlying36 (by kernel_rfl) (show Tryz.prog.cellsOf 36 = 2 by kernel_rfl) hval h
  obtain ⟨i, e0, _, w0⟩ := DataW.trod_int Tryz.underlying3 hy0
  simp at e0
  subst e0
  obtain ⟨s, e1, _, w1⟩ := DataW.trod_string Tryz.underlying9 hy1
  simp at e1
  subst e1
  exact ⟨i, s, rfl⟩
end Go.Proofs.YtojnlmfahgeidaaGreatDoor
