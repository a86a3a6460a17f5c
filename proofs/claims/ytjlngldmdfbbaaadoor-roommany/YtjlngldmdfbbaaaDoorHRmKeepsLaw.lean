/- The walk of the statement on what rooms keep. -/
import Derived.Test.YtjlngldmdfbbaaaDoorHRmLoad
import Derived.Test.YtjlngldmdfbbaaaDoorHRmRef
import Derived.Handy
import Derived.Test.YtjlngldmdfbbaaaDoorHBiPlay

namespace Go.Proofs.YtjlngldmdfbbaaaDoor
open Go Go.RowKit
set_option linter.unusedVariables false
set_option linter.unusedSimpArgs false
section
variable {w w' : World} {P Q : Nat → Prop} {r n : Nat} {F G : Nat → Bool}
/-- a room's blocks, told by another word -/
theorem RoomIs.reown (h : RoomIs w P r n F G) (hQ : ∀ k, k < w.heap.size → P k → Q k) : RoomIs w Q r n F G := by
  obtain ⟨gu, bu, cu, gn, bn, cn, U, X, hR, hF, hG⟩ := h
  exact ⟨gu, bu, cu, gn, bn, cn, U, X, ⟨hR.cells, hR.u, hR.x, ⟨hQ _ hR.cells.lt hR.own.1, hQ _ hR.u.glt hR.own.2.1, hQ _ hR.u.blt.2 hR.own.2.2.1, hQ _ hR.x.glt hR.own.2.2.2.1, hQ _ hR.x.blt.2 hR.own.2.2.2.2⟩, hR.ne, hR.z, hR.n16⟩, hF, hG⟩
/-- what turns another room's blocks alone leaves this one -/
theorem RoomIs.apart (h : RoomIs w P r n F G) (ht : Touch Q w w') (hd : ∀ k, P k → ¬ Q k) : RoomIs w' P r n F G := by
  obtain ⟨gu, bu, cu, gn, bn, cn, U, X, hR, hF, hG⟩ := h
  exact ⟨gu, bu, cu, gn, bn, cn, U, X, hR.keep (ht.block _ hR.cells.lt (hd _ hR.own.1)) (ht.block _ hR.u.glt (hd _ hR.own.2.1)) (ht.block _ hR.u.blt.2 (hd _ hR.own.2.2.1)) (ht.block _ hR.x.glt (hd _ hR.own.2.2.2.1)) (ht.block _ hR.x.blt.2 (hd _ hR.own.2.2.2.2)), hF, hG⟩
theorem RoomIs.facts (h : RoomIs w P r n F G) : 16 ≤ n ∧ n ≤ 8192 ∧ F 0 = false ∧ G 0 = false ∧ (∀ p, n ≤ p → F p = false) ∧ (∀ p, n ≤ p → G p = false) := by
  obtain ⟨gu, bu, cu, gn, bn, cn, U, X, hR, hF, hG⟩ := h
  exact ⟨hR.n16, hR.x.n2, by rw [← hF]; exact hR.z.1, by rw [← hG]; exact hR.z.2, fun p hp => by rw [← hF]; exact hR.u.tail p hp, fun p hp => by rw [← hG]; exact hR.x.tail p hp⟩
theorem cntF_one (F : Nat → Bool) : ∀ n p, p < n → F p = true → 1 ≤ cntF F n
  | 0, p, hp, _ => by omega
  | n + 1, p, hp, hF => by
    show 1 ≤ cntF F n + if F n = true then 1 else 0
    by_cases e : p = n
    · rw [← e, hF]
      simp
    · have := cntF_one F n p (by omega) hF
      omega
theorem cntF_clear (F : Nat → Bool) : ∀ n p, p < n → F p = true → cntF (fun q => if q = p then false else F q) n + 1 = cntF F n
  | 0, p, hp, _ => by omega
  | n + 1, p, hp, hF => by
    show (cntF (fun q => if q = p then false else F q) n + if (if n = p then false else F n) = true then 1 else 0) + 1 = cntF F n + if F n = true then 1 else 0
    by_cases e : p = n
    · subst e
      rw [if_pos rfl, hF, cntF_congr (G := F) fun i hi => by rw [if_neg (by omega)]]
      simp
    · rw [if_neg (Ne.symm e)]
      have := cntF_clear F n p (by omega) hF
      omega
/-- there is a free block just if there are some -/
theorem free_none (hf : freeF F G n = -1) (p : Nat) (h1 : 1 ≤ p) (h2 : p < n) : F p = true ∨ G p = true := by
  have := (nxt_is (fun p => F p || G p) false n 1).none hf p h1 h2
  cases hF : F p <;> cases hG : G p <;> simp_all
theorem free_cnt (hF0 : ∀ p, n ≤ p → F p = false) (hG0 : ∀ p, n ≤ p → G p = false) : freeF F G n = -1 ↔ cntF (inF F G n 1) n = 0 := by
  constructor
  · intro hf
    refine cntF_none _ _ fun p hp => ?_
    rw [inF_pos 1 (by decide) hF0 hG0]
    by_cases h0 : 1 ≤ p
    · rcases free_none hf p h0 hp with h | h
      · unfold stN; rw [h]; cases G p <;> simp
      · unfold stN; rw [h]; cases F p <;> simp
    · simp [h0]
  · intro hc
    apply Classical.byContradiction
    intro hf
    obtain ⟨p, e, h1, h2, h3, _⟩ := (nxt_is (fun p => F p || G p) false n 1).some hf
    have hfg : F p = false ∧ G p = false := by simpa using h3
    have := cntF_one (inF F G n 1) n p h2 (by rw [inF_pos 1 (by decide) hF0 hG0]; unfold stN; rw [hfg.1, hfg.2]; simp [h1, h2])
    omega
/-- a free block that is taken is free no more -/
theorem take_cnt (hF0 : ∀ p, n ≤ p → F p = false) (hG0 : ∀ p, n ≤ p → G p = false) {p : Nat} (h1 : 1 ≤ p) (h2 : p < n) (hF : F p = false) (hG : G p = false) : cntF (inF F (fun q => if q = p then true else G q) n 1) n + 1 = cntF (inF F G n 1) n := by
  have hG1 : ∀ q, n ≤ q → (fun q => if q = p then true else G q) q = false := fun q hq => by
    show (if q = p then true else G q) = false
    rw [if_neg (by omega)]
    exact hG0 q hq
  rw [← cntF_clear (inF F G n 1) n p h2 (by rw [inF_pos 1 (by decide) hF0 hG0]; unfold stN; rw [hF, hG]; simp [h1, h2])]
  congr 1
  refine cntF_congr fun q hq => ?_
  rw [inF_pos 1 (by decide) hF0 hG1, inF_pos 1 (by decide) hF0 hG0]
  unfold stN
  by_cases e : q = p
  · subst e
    simp [hF]
  · simp [e]
/-- the counts of all states are all blocks -/
theorem all_cnt (hn : 1 ≤ n) : cntF (inF F G n 0) n + cntF (inF F G n 1) n + cntF (inF F G n 2) n + cntF (inF F G n 3) n + cntF (inF F G n 4) n = n := by
  have key : ∀ m, m ≤ n → cntF (inF F G n 0) m + cntF (inF F G n 1) m + cntF (inF F G n 2) m + cntF (inF F G n 3) m + cntF (inF F G n 4) m = m := by
    intro m
    induction m with
    | zero => intro _; rfl
    | succ m ih =>
      intro hm
      have := ih (by omega)
      show (cntF (inF F G n 0) m + if inF F G n 0 m = true then 1 else 0) + (cntF (inF F G n 1) m + if inF F G n 1 m = true then 1 else 0) + (cntF (inF F G n 2) m + if inF F G n 2 m = true then 1 else 0) + (cntF (inF F G n 3) m + if inF F G n 3 m = true then 1 else 0) + (cntF (inF F G n 4) m + if inF F G n 4 m = true then 1 else 0) = m + 1
      have hlt : m < n := by omega
      generalize cntF (inF F G n 0) m = c0 at *
      generalize cntF (inF F G n 1) m = c1 at *
      generalize cntF (inF F G n 2) m = c2 at *
      generalize cntF (inF F G n 3) m = c3 at *
      generalize cntF (inF F G n 4) m = c4 at *
      unfold inF stAt stN
      by_cases h0 : m = 0 ∨ n ≤ m
      · simp [h0, hlt]
        omega
      · cases F m <;> cases G m <;> simp [h0, hlt] <;> omega
  exact key n (Nat.le_refl _)
end
end Go.Proofs.YtjlngldmdfbbaaaDoor

namespace Go.Proofs.YtjlngldmdfbbaaaDoor
open Go Go.RowKit
set_option linter.unusedVariables false
set_option linter.unusedSimpArgs false
/-- the next tree's blocks when the first k were let go -/
def ltG (A : Nat → Nat) (G : Nat → Bool) : Nat → Nat → Bool
  | 0 => G
  | k + 1 => fun q => if q = A k then false else ltG A G k q
/-- the first k can be let go, one behind the other -/
def LtOk (A : Nat → Nat) (G : Nat → Bool) (k : Nat) : Prop := ∀ j, j < k → ltG A G j (A j) = true
section
variable {w w' : World} {P Q : Nat → Prop} {r n : Nat} {F G : Nat → Bool}
theorem IsU32s.touch {a : Option Addr} {N : Nat} {A : Nat → Nat} (h : IsU32s w a N A) (ht : Touch P w w') (ho : 0 < N → ∀ b o, a = some ⟨b, o, none⟩ → ¬ P b) : IsU32s w' a N A := fun i hi => by
  obtain ⟨h0, b, o, e, h1, h2⟩ := h i hi
  refine ⟨h0, b, o, e, Nat.lt_of_lt_of_le h1 ht.size, ?_⟩
  rw [← h2]; simp [World.cell?, ht.block b h1 (ho (by omega) b o e)]
set_option maxRecDepth 100000 in
set_option maxHeartbeats 4000000 in
theorem rleteach_any (h : RoomIs w P r n F G) (a : Option Addr) (N cc : Nat) (hN : N ≤ 9223372036854775807) (A : Nat → Nat) (hD : IsU32s w a N A) (ho : 0 < N → ∀ b o, a = some ⟨b, o, none⟩ → ¬ P b) :
    Calls Tryd.prog 24 #[.pointer (some ⟨r, 0, none⟩), .slice a N cc] w fun e w' => ∃ k z : Nat, e = .returned (.tuple #[.int .i64 (k : Int), .int .i64 (z : Int)]) ∧ ((k < N ∧ z = 121 ∧ LtOk A G k ∧ ltG A G k (A k) = false ∧ RoomIs w' P r n F (ltG A G k)) ∨ (k = 0 ∧ z = 0 ∧ LtOk A G N ∧ RoomIs w' P r n F (ltG A G N))) ∧ Touch P w w' := by
  have HD : Hid (∀ V, Touch P w V → IsU32s V a N A) := fun V hV => hD.touch hV ho
  have H0 : Hid (RoomIs w P r n F G) := h
  clear hD ho h
  go_enter Tryd.func24, Tryd.ntmps24
  go_wp2_with fail
  go_loopw [11] (fun v wr => Hid (∃ i : Nat, i ≤ N ∧ v = .int .i64 (i : Int) ∧ LtOk A G i ∧ RoomIs wr P r n F (ltG A G i) ∧ Touch P w wr)) (fun v _ => N - (intOf v).toNat)
  case atStart => exact ⟨0, Nat.zero_le _, rfl, fun j hj => by omega, H0.out, Touch.refl _ _⟩
  case round =>
    obtain ⟨i, hi, rfl, hok, hR, hT⟩ := Hid.out hrel
    have HK : Hid (LtOk A G i ∧ Touch P w wr) := ⟨hok, hT⟩
    clear hrel hok H0
    by_cases hin : i < N
    · have j1 : (i : Int) < (N : Int) := by omega
      have j0 : (0 : Int) ≤ (i : Int) := by omega
      obtain ⟨hx, b, o, rfl, hb, cw⟩ := HD.out wr hT i hin
      have HL : Hid (Calls _ _ _ _ _) := rlet_any hR (A i) hx
      have HRR : Hid (RoomIs wr P r n F (ltG A G i)) := hR
      obtain ⟨x, hxe⟩ : ∃ x, A i = x := ⟨_, rfl⟩
      rw [hxe] at HL cw hx
      have HX : Hid (A i = x) := hxe
      clear hR hT hb hxe
      go_wp2_with fail
      refine HL.out.mono ?_
      rintro e w1 (⟨hG, rfl, m, rfl⟩ | ⟨hG, hxn, rfl, hR1, hT1⟩)
      · have HE : Hid (ltG A G i (A i) = false ∧ RoomIs (wr.drewN m) P r n F (ltG A G i) ∧ Touch P w (wr.drewN m)) := ⟨by rw [HX.out]; exact hG, HRR.out.dN m, HK.out.2.dN m⟩
        clear hG HL cw
        go_wp2_with fail
        go_ret2
        exact ⟨i, 121, rfl, .inl ⟨hin, rfl, HK.out.1, HE.out.1, HE.out.2.1⟩, HE.out.2.2⟩
      · have HE : Hid (LtOk A G (i + 1) ∧ RoomIs w1 P r n F (ltG A G (i + 1)) ∧ Touch P w w1) := by
          refine ⟨fun j hj => ?_, ?_, HK.out.2.trans hT1⟩
          · by_cases c : j = i
            · subst c; rw [HX.out]; exact hG
            · exact HK.out.1 j (by omega)
          · have := hR1
            rw [← HX.out] at this
            exact this
        clear hG hR1 hT1 HL cw
        go_wp2_with fail
        go_roundw
        case rel => exact ⟨i + 1, by omega, by first | rfl | go_num | simp, HE.out.1, HE.out.2.1, HE.out.2.2⟩
        case measure => simp [intOf]; omega
    · have j1 : ¬ ((i : Int) < (N : Int)) := by omega
      obtain rfl : i = N := by omega
      have HRR : Hid (RoomIs wr P r n F (ltG A G i)) := hR
      clear hR hT
      go_wp2_with fail
      go_ret2
      exact ⟨0, 0, rfl, .inr ⟨rfl, rfl, HK.out.1, HRR.out⟩, HK.out.2⟩
set_option maxRecDepth 100000 in
set_option maxHeartbeats 4000000 in
theorem rletall_any (h : RoomIs w P r n F G) (a : Option Addr) (N cc : Nat) (hN : N ≤ 9223372036854775807) (A : Nat → Nat) (hD : IsU32s w a N A) (ho : 0 < N → ∀ b o, a = some ⟨b, o, none⟩ → ¬ P b ∧ b < w.heap.size) (hP : ∀ k, P k → k < w.heap.size) :
    Calls Tryd.prog 11 #[.pointer (some ⟨r, 0, none⟩), .slice a N cc] w fun e w' => ∃ k z : Nat, e = .returned (.tuple #[.int .i64 (k : Int), .int .i64 (z : Int)]) ∧ ((k < N ∧ z = 121 ∧ LtOk A G k ∧ ltG A G k (A k) = false ∧ RoomIs w' P r n F G) ∨ (k = 0 ∧ z = 0 ∧ LtOk A G N ∧ RoomIs w' P r n F (ltG A G N))) ∧ Touch P w w' := by
  have HC : Hid (Calls _ _ _ _ _) := rcopy_any h
  have H0 : Hid (RoomIs w P r n F G) := h
  have HD : Hid (IsU32s w a N A) := hD
  have HO : Hid (0 < N → ∀ b o, a = some ⟨b, o, none⟩ → ¬ P b ∧ b < w.heap.size) := ho
  have HP : Hid (∀ k, P k → k < w.heap.size) := hP
  clear h hD ho hP
  go_enter Tryd.func11, Tryd.ntmps11
  go_wp2_with fail
  refine HC.out.mono ?_
  rintro e w1 ⟨r', rfl, hR1, hb1⟩
  have HE : Hid (Calls _ _ _ _ _) := rleteach_any (cc := cc) hR1 a N hN A (HD.out.below hb1) fun hN0 b o e hq => by
    have := (HO.out hN0 b o e).2
    have : w.heap.size ≤ b := hq
    omega
  have HB1 : Hid (Below w.heap.size w w1) := hb1
  clear hR1 hb1 HC
  go_wp2_with fail
  refine HE.out.mono ?_
  rintro e w2 ⟨k, z, rfl, hh, hT⟩
  have hb2 : Below w.heap.size w w2 := HB1.out.trans (hT.below HB1.out.size fun k hk hq => by have : w.heap.size ≤ k := hq; omega)
  have HB2 : Hid (Below w.heap.size w w2) := hb2
  rcases hh with ⟨hk, rfl, hok, hno, _⟩ | ⟨rfl, rfl, hok, _⟩
  · have HF : Hid (LtOk A G k ∧ ltG A G k (A k) = false) := ⟨hok, hno⟩
    clear hok hno hT hb2 HE
    go_wp2_with fail
    go_ret2
    exact ⟨k, 121, rfl, .inl ⟨hk, rfl, HF.out.1, HF.out.2, H0.out.below HB2.out⟩, Touch.of_below HB2.out⟩
  · have HF : Hid (Calls _ _ _ _ _) := rleteach_any (cc := cc) (H0.out.below hb2) a N hN A (HD.out.below hb2) fun hN0 b o e => (HO.out hN0 b o e).1
    have HOK : Hid (LtOk A G N) := hok
    clear hok hT hb2 HE
    go_wp2_with fail
    refine HF.out.mono ?_
    rintro e w3 ⟨k, z, rfl, hh, hT⟩
    have HH : Hid (RoomIs w3 P r n F (ltG A G N) ∧ Touch P w w3) := by
      refine ⟨?_, (Touch.of_below HB2.out).trans hT⟩
      rcases hh with ⟨hk, _, _, hno, _⟩ | ⟨_, _, _, hR⟩
      · have := HOK.out k hk
        rw [hno] at this
        cases this
      · exact hR
    clear hh hT HF
    go_wp2_with fail
    go_ret2
    exact ⟨0, 0, rfl, .inr ⟨rfl, rfl, HOK.out, HH.out.1⟩, HH.out.2⟩
theorem runsL_none (n : Nat) (I : Nat → Bool) (h : ∀ p, I p = false) : runsL I n = [] := by
  induction n with
  | zero => rfl
  | succ n ih => unfold runsL; rw [h n]; exact ih
set_option maxHeartbeats 4000000 in
theorem rmruns_any (hT : TabAt w) (h0 : 0 < w.heap.size) (h : RoomIs w P r n F G) (s : Int) : Calls Tryd.prog 12 #[.pointer (some ⟨r, 0, none⟩), .int .i64 s] w fun e w' => ∃ v, e = .returned v ∧ w'.ownsRow w.heap.size 47 2 v (runsL (inF F G n s) n).length (rnL (runsL (inF F G n s) n)) ∧ Below w.heap.size w w' := by
  have HI : Hid (Calls _ _ _ _ _) := rin_any h s
  have HT : Hid (TabAt w) := hT
  clear h hT
  go_enter Tryd.func12, Tryd.ntmps12
  go_wp2_with fail
  refine HI.out.mono ?_
  rintro e w1 ⟨mv, rfl, hm, hb⟩
  have HR : Hid (Calls Tryd.prog 26 #[mv] w1 fun e w' => ∃ v, e = .returned v ∧ w'.ownsRow w.heap.size 47 2 v (runsL (inF F G n s) n).length (rnL (runsL (inF F G n s) n)) ∧ Below w.heap.size w w') := by
    show Calls _ _ _ _ _
    rcases hm with ⟨rfl, hI⟩ | ⟨g, b, c, V, rfl, hV, hVb⟩
    · rw [runsL_none n _ hI]
      refine (nruns w1).mono ?_
      rintro e w' ⟨rfl, rfl⟩
      exact ⟨_, rfl, World.ownsRow_nil _ _ _ _, hb⟩
    · refine (runs_any w1 (Nat.lt_of_lt_of_le h0 hb.size) (HT.out.below h0 hb) hV).mono ?_
      rintro e w' ⟨v, rfl, ho, hb2⟩
      rw [runsL_congr (n := n) fun p _ => hVb p] at ho
      exact ⟨v, rfl, kown_mono ho hb.size, hb.trans (hb2.mono hb.size)⟩
  clear hm hb HI
  go_wp2_with fail
  refine HR.out.mono ?_
  rintro e w2 ⟨v, rfl, ho, hb⟩
  have HO : Hid (_ ∧ _) := ⟨ho, hb⟩
  clear ho hb HR
  go_wp2_with fail
  go_ret
  exact ⟨_, rfl, HO.out.1, HO.out.2⟩
end
end Go.Proofs.YtjlngldmdfbbaaaDoor

namespace Go.Proofs.YtjlngldmdfbbaaaDoor
open Go Go.RowKit
set_option linter.unusedVariables false
set_option linter.unusedSimpArgs false
/-- the next tree's blocks when k were taken -/
def tkG (F : Nat → Bool) (n : Nat) (G : Nat → Bool) : Nat → Nat → Bool
  | 0 => G
  | k + 1 => fun q => if (q : Int) = freeF F (tkG F n G k) n then true else tkG F n G k q
/-- the k-th block that is taken -/
def tkP (F : Nat → Bool) (n : Nat) (G : Nat → Bool) (k : Nat) : Nat := (freeF F (tkG F n G k) n).toNat
theorem tkG_succ {F : Nat → Bool} {n : Nat} {G : Nat → Bool} {k p : Nat} (h : freeF F (tkG F n G k) n = (p : Int)) : tkG F n G (k + 1) = fun q => if q = p then true else tkG F n G k q := by
  funext q
  show (if (q : Int) = freeF F (tkG F n G k) n then true else tkG F n G k q) = _
  rw [h]
  by_cases c : q = p
  · rw [if_pos (by omega), if_pos c]
  · rw [if_neg (by omega), if_neg c]
theorem tkP_eq {F : Nat → Bool} {n : Nat} {G : Nat → Bool} {k p : Nat} (h : freeF F (tkG F n G k) n = (p : Int)) : tkP F n G k = p := by
  unfold tkP
  rw [h]
  omega
/-- numbers, and zeros behind them -/
def tkC (A : Nat → Nat) (k : Nat) : Nat → Value := fun i => .int .u32 (if i < k then (A i : Int) else 0)
theorem tkC_put {w : World} {g t m : Nat} {A : Nat → Nat} {k p : Nat} (h : Blk w g t (va m (tkC A k))) (hk : k < m) (hp : A k = p) : Blk (w.setCell ⟨g, k, none⟩ (.int .u32 (p : Int))) g t (va m (tkC A (k + 1))) := by
  have := h.put k (.int .u32 (p : Int))
  have e : (va m (tkC A k)).setIfInBounds k (.int .u32 (p : Int)) = va m (tkC A (k + 1)) := by
    refine va_ext (by rw [Array.size_setIfInBounds, va_size]) fun i hi => ?_
    rw [Array.getElem?_setIfInBounds]
    by_cases c : k = i
    · subst c
      rw [if_pos rfl, if_pos (by rw [va_size]; exact hi)]
      unfold tkC
      rw [if_pos (by omega), hp]
    · rw [if_neg c, va_at _ hi]
      unfold tkC
      by_cases c2 : i < k
      · rw [if_pos c2, if_pos (by omega)]
      · rw [if_neg c2, if_neg (by omega)]
  rw [e] at this
  exact this
theorem make_u32s (n : Nat) (hn : n ≤ 8192) (w : World) : (Instr.makeSlice 22 (.int .i64 (n : Int)) (.int .i64 (n : Int))).run Tryd.prog w = .ok (.slice (some ⟨w.heap.size, 0, none⟩) n n) (w.alloc (.cells (va n fun _ => .int .u32 0) 36)) := by
  obtain ⟨i0, hi, hz0, hz1, hz2⟩ := info_parts infoU32
  have := run_make (P := Tryd.prog) w 22 36 i0 (.int .u32 0) Tryd.underlying22 hi hz0 .i64 .i64 (n : Int) (n : Int) (by omega) (Int.le_refl _) (by rw [hz2]; omega) (by omega)
  rw [hz1] at this
  simp only [Int.toNat_natCast, Value.cells, made_one1, Nat.mul_one] at this
  exact this
section
variable {w w' : World} {P Q : Nat → Prop} {r n : Nat} {F G : Nat → Bool}
set_option maxRecDepth 100000 in
set_option maxHeartbeats 4000000 in
theorem rtakemany_neg (r : Nat) (m : Int) (hm : m < 0) (w : World) : Calls Tryd.prog 7 #[.pointer (some ⟨r, 0, none⟩), .int .i64 m] w fun e w' => e = .returned (.tuple #[.slice none 0 0, .int .i64 1]) ∧ w' = w := by
  go_enter Tryd.func7, Tryd.ntmps7
  go_wp2_with fail
  go_ret2
  exact ⟨rfl, rfl⟩
set_option maxRecDepth 100000 in
set_option maxHeartbeats 4000000 in
theorem rtakemany_no (h : RoomIs w P r n F G) (m : Int) (hm : 0 ≤ m) (hno : (cntF (inF F G n 1) n : Int) < m) : Calls Tryd.prog 7 #[.pointer (some ⟨r, 0, none⟩), .int .i64 m] w fun e w' => e = .returned (.tuple #[.slice none 0 0, .int .i64 3]) ∧ Below w.heap.size w w' := by
  have HC : Hid (Calls _ _ _ _ _) := rcountR_any h 1
  clear h
  generalize (cntF (inF F G n 1) n : Int) = cn at *
  have h0 : ¬ m < 0 := by omega
  go_enter Tryd.func7, Tryd.ntmps7
  go_wp2_with fail
  refine HC.out.mono ?_
  rintro e w1 ⟨rfl, hb⟩
  go_wp2_with fail
  go_ret2
  exact ⟨rfl, hb⟩
set_option maxRecDepth 100000 in
set_option maxHeartbeats 4000000 in
theorem rtakemany_ok (hT : TabAt w) (h0 : 0 < w.heap.size) (h : RoomIs w P r n F G) (hP : ∀ k, P k → k < w.heap.size) (hP0 : ¬ P 0) (m : Nat) (hm : m ≤ cntF (inF F G n 1) n) : Calls Tryd.prog 7 #[.pointer (some ⟨r, 0, none⟩), .int .i64 (m : Int)] w fun e w' => ∃ g, e = .returned (.tuple #[.slice (some ⟨g, 0, none⟩) m m, .int .i64 0]) ∧ w.heap.size ≤ g ∧ Blk w' g 36 (va m (tkC (tkP F n G) m)) ∧ RoomIs w' P r n F (tkG F n G m) ∧ Touch P w w' ∧ (∀ j, j < m → freeF F (tkG F n G j) n = (tkP F n G j : Int) ∧ tkP F n G j < n) := by
  have hfa := h.facts
  have HC : Hid (Calls _ _ _ _ _) := rcountR_any h 1
  have H0 : Hid (RoomIs w P r n F G) := h
  have HP : Hid (∀ k, P k → k < w.heap.size) := hP
  have HP0 : Hid (¬ P 0) := hP0
  have HT : Hid (TabAt w) := hT
  have hcn : cntF (inF F G n 1) n ≤ n := by have := all_cnt (F := F) (G := G) (n := n) (by omega); omega
  have HM : Hid (m ≤ cntF (inF F G n 1) n) := hm
  have hm8 : m ≤ 8192 := by omega
  have hcm : ¬ ((cntF (inF F G n 1) n : Int) < (m : Int)) := by omega
  have hmz : ¬ ((m : Int) < 0) := by omega
  have hmk := make_u32s m hm8
  generalize hcq : (cntF (inF F G n 1) n : Int) = cn at HC hcm
  clear h hP hT hfa hcn hm hcq hP0
  go_enter Tryd.func7, Tryd.ntmps7
  go_wp2_with fail
  refine HC.out.mono ?_
  rintro e w1 ⟨rfl, hb1⟩
  have HB1 : Hid (Below w.heap.size w w1) := hb1
  have HBK : Hid (Blk (w1.alloc (.cells (va m fun _ => .int .u32 0) 36)) w1.heap.size 36 (va m (tkC (tkP F n G) 0))) := by
    have := Blk.new w1 36 (va m fun _ => .int .u32 0)
    have e : (fun _ => Value.int .u32 0) = tkC (tkP F n G) 0 := by funext i; unfold tkC; rw [if_neg (by omega)]
    rw [e] at this
    show Blk _ _ _ _
    rw [e]
    exact this
  have hbA : Below w.heap.size w (w1.alloc (.cells (va m fun _ => .int .u32 0) 36)) := hb1.alloc hb1.size _
  have HBA : Hid (Below w.heap.size w (w1.alloc (.cells (va m fun _ => .int .u32 0) 36))) := hbA
  have hgw : w.heap.size ≤ w1.heap.size := hb1.size
  clear hb1 hbA HC
  go_wp2_with fail
  generalize w1.alloc (.cells (va m fun _ => .int .u32 0) 36) = w2 at *
  generalize w1.heap.size = g at *
  clear hcm
  go_loopw [22] (fun v wr => Hid (∃ k : Nat, k ≤ m ∧ v = .int .i64 (k : Int) ∧ Blk wr g 36 (va m (tkC (tkP F n G) k)) ∧ RoomIs wr P r n F (tkG F n G k) ∧ Touch P w wr ∧ cntF (inF F (tkG F n G k) n 1) n + k = cntF (inF F G n 1) n ∧ (∀ j, j < k → freeF F (tkG F n G j) n = (tkP F n G j : Int) ∧ tkP F n G j < n))) (fun v _ => m - (intOf v).toNat)
  case atStart => exact ⟨0, Nat.zero_le _, rfl, HBK.out, H0.out.below HBA.out, Touch.of_below HBA.out, rfl, fun j hj => by omega⟩
  case round =>
    obtain ⟨k, hk, rfl, hBk, hR, hTo, hcnt, hall⟩ := Hid.out hrel
    have HK : Hid (Blk wr g 36 (va m (tkC (tkP F n G) k)) ∧ Touch P w wr ∧ cntF (inF F (tkG F n G k) n 1) n + k = cntF (inF F G n 1) n ∧ (∀ j, j < k → freeF F (tkG F n G j) n = (tkP F n G j : Int) ∧ tkP F n G j < n)) := ⟨hBk, hTo, hcnt, hall⟩
    clear hrel H0 HBK
    by_cases hkm : k < m
    · have j1 : (k : Int) < (m : Int) := by omega
      have j0 : (0 : Int) ≤ (k : Int) := by omega
      have hfa := hR.facts
      have hTab : TabAt wr := by
        exact HT.out.below (B := 1) (by omega) (hTo.below (by omega) fun k hk => by obtain rfl : k = 0 := by omega
                                                                                    exact HP0.out)
      have HTK : Hid (Calls _ _ _ _ _) := rtake_any hTab (Nat.lt_of_lt_of_le h0 hTo.size) hR
      have HFA : Hid ((∀ p, n ≤ p → F p = false) ∧ (∀ p, n ≤ p → tkG F n G k p = false)) := ⟨hfa.2.2.2.2.1, hfa.2.2.2.2.2⟩
      have hn8 : n ≤ 8192 := hfa.2.1
      clear hBk hR hTo hcnt hall hfa hTab
      go_wp2_with fail
      refine HTK.out.mono ?_
      rintro e w3 (⟨hf, _⟩ | ⟨p, hf, hp1, hp2, hp3, hp4, rfl, hR3, hT3⟩)
      · exfalso
        have := (free_cnt HFA.out.1 HFA.out.2).1 hf
        have h2 := HK.out.2.2.1
        have h3 := HM.out
        omega
      · have hgP : ¬ P g := fun q => by have := HP.out g q; omega
        have hblk : Blk w3 g 36 (va m (tkC (tkP F n G) k)) := (hT3.block g HK.out.1.lt hgP).trans HK.out.1
        have c0 : w3.cell? ⟨g, k, none⟩ = some (tkC (tkP F n G) k k) := hblk.cv (n := m) (f := tkC (tkP F n G) k) (i := k) hkm
        have f0 : w3.frozen? ⟨g, k, none⟩ = false := hblk.frozen k
        have htp := tkP_eq hf
        have hput := tkC_put hblk hkm htp
        have hR4 : RoomIs (w3.setCell ⟨g, k, none⟩ (.int .u32 (p : Int))) P r n F (tkG F n G (k + 1)) := by
          rw [tkG_succ hf]
          exact hR3.apart (Q := fun z => z = g) (Touch.of_only (Only.set w3 g k _) rfl) fun z hz e => hgP (e ▸ hz)
        have HE : Hid (Blk (w3.setCell ⟨g, k, none⟩ (.int .u32 (p : Int))) g 36 (va m (tkC (tkP F n G) (k + 1))) ∧ RoomIs (w3.setCell ⟨g, k, none⟩ (.int .u32 (p : Int))) P r n F (tkG F n G (k + 1)) ∧ Touch P w (w3.setCell ⟨g, k, none⟩ (.int .u32 (p : Int))) ∧ cntF (inF F (tkG F n G (k + 1)) n 1) n + (k + 1) = cntF (inF F G n 1) n ∧ (∀ j, j < k + 1 → freeF F (tkG F n G j) n = (tkP F n G j : Int) ∧ tkP F n G j < n)) := by
          refine ⟨hput, hR4, ?_, ?_, ?_⟩
          · have h1 := HK.out.2.1.trans hT3
            have h2 := Only.set w3 g k (.int .u32 (p : Int))
            exact ⟨h2.os.trans h1.os, h2.tape.trans h1.tape, h2.output.trans h1.output, Nat.le_trans h1.size h2.size, fun z hz hn => (h2.block z (Nat.lt_of_lt_of_le hz h1.size) (by omega)).trans (h1.block z hz hn)⟩
          · rw [tkG_succ hf]
            have := take_cnt HFA.out.1 HFA.out.2 hp1 hp2 hp3 hp4
            have h2 := HK.out.2.2.1
            omega
          · intro j hj
            by_cases c : j = k
            · subst c; rw [htp]; exact ⟨hf, hp2⟩
            · exact HK.out.2.2.2 j (by omega)
        clear hblk hput hR4 hR3 hT3 HTK hf htp
        unfold tkC at c0
        go_wp2_with fail
        go_roundw
        case rel => exact ⟨k + 1, by omega, by first | rfl | go_num | simp, HE.out.1, HE.out.2.1, HE.out.2.2.1, HE.out.2.2.2.1, HE.out.2.2.2.2⟩
        case measure => simp [intOf]; omega
    · have j1 : ¬ ((k : Int) < (m : Int)) := by omega
      obtain rfl : k = m := by omega
      have HR : Hid (RoomIs wr P r n F (tkG F n G k)) := hR
      clear hBk hR hTo hcnt hall
      go_wp2_with fail
      go_ret2
      exact ⟨g, rfl, hgw, HK.out.1, HR.out, HK.out.2.1, HK.out.2.2.2⟩
end
end Go.Proofs.YtjlngldmdfbbaaaDoor

namespace Go.Proofs.YtjlngldmdfbbaaaDoor
set_option maxRecDepth 20000
open Go Go.RowKit
set_option linter.unusedVariables false
set_option linter.unusedSimpArgs false
set_option maxHeartbeats 4000000 in
theorem lawRuns_any {w : World} {B k n c : Nat} {f : Nat → Int} (h : SA w B k n c f) (s : Int) : Calls Tryd.prog 13 #[.slice (some ⟨k, 0, none⟩) n c, .int .i64 s] w fun e w' => ∃ v, e = .returned v ∧ w'.ownsRow w.heap.size 47 2 v (runsL (fun p => decide (f p = s)) n).length (rnL (runsL (fun p => decide (f p = s)) n)) ∧ Below w.heap.size w w' := by
  obtain ⟨F, hF0⟩ : ∃ F : Nat → Bool, (fun p => decide (f p = s)) = F := ⟨_, rfl⟩
  rw [hF0]
  have HF0 : Hid (∀ p, F p = decide (f p = s)) := fun p => by rw [← hF0]
  obtain ⟨i0, hi, hz0, hz1, hz2⟩ := info_parts infoRun
  have hn2 := h.n2
  have HC : Hid (∀ V : World, Below w.heap.size w V → ∀ i, i < n → V.cell? ⟨k, i, none⟩ = some (.int .i64 (f i))) := fun V hV i hi => (h.below hV).at hi
  have HO0 : Hid (w.ownsRow w.heap.size 47 2 (.slice none 0 0) 0 []) := World.ownsRow_nil _ _ _ _
  clear h hF0
  go_enter Tryd.func13, Tryd.ntmps13
  go_wp2_with fail
  go_loopw [5, 10] (fun l t wr => ∃ (j : Nat), j ≤ n ∧ t = .int .i64 (j : Int) ∧ wr.ownsRow w.heap.size 47 2 l (runsL F j).length (rnL (runsL F j)) ∧ Below w.heap.size w wr) (fun _ t _ => n - (intOf t).toNat)
  case atStart => exact ⟨0, by omega, rfl, HO0.out, Below.refl _ _⟩
  case round =>
    obtain ⟨j, hj, rfl, hown, hb⟩ := hrel
    by_cases hlt : j < n
    · have a1 : (j : Int) < (n : Int) := by omega
      have cw := HC.out wr hb j hlt
      obtain ⟨la, lc, hl3⟩ := kown_slice hown
      subst hl3
      have hlen := runsL_len F j
      have HLT := hown.lt
      have hbs := hb.size
      have j0 : (0 : Int) ≤ (j : Int) := by omega
      have hFj := HF0.out j
      cases hF : F j
      · have HS : Hid (runsL F (j + 1) = runsL F j) := by
          show (if F j then runStep (runsL F j) j else runsL F j) = runsL F j
          rw [hF]; rfl
        rw [hF] at hFj
        have hne : ¬ (f j = s) := of_decide_eq_false hFj.symm
        have hneb : (f j != s) = true := by simpa using hne
        have hneq : (f j == s) = false := by simpa using hne
        clear hF hFj
        have HJ : Hid (j < n) := hlt
        go_wp2_with fail
        go_roundw
        case rel => exact ⟨j + 1, HJ.out, by go_num, by rw [HS.out]; exact hown, hb⟩
        case measure => simp [intOf]; omega
      · have HS : Hid (runsL F (j + 1) = runStep (runsL F j) j) := by
          show (if F j then runStep (runsL F j) j else runsL F j) = runStep (runsL F j) j
          rw [hF]; rfl
        rw [hF] at hFj
        have heq : f j = s := of_decide_eq_true hFj.symm
        rw [heq] at cw
        clear hF hFj heq
        have HNEW : Hid (∀ i u, ([.int .i64 (j : Int), .int .i64 (j : Int)] : List Value)[i]? = some u → (wr.alloc (.cells #[.int .i64 (j : Int), .int .i64 (j : Int)] 47)).cell? ((⟨wr.heap.size, 0, none⟩ : Addr).add i) = some u) := cells_new2 _ _ _ _
        rcases List.eq_nil_or_concat (runsL F j) with hnil | ⟨l0, r, hcat0⟩
        · have hstep : runStep (runsL F j) j = runsL F j ++ [(j, j)] := by rw [hnil]; rfl
          have HOWN : Hid ((wr.alloc (.cells #[.int .i64 (j : Int), .int .i64 (j : Int)] 47)).ownsRow w.heap.size 47 2 (.slice la (runsL F j).length lc) (runsL F j).length (rnL (runsL F j))) := hown.alloc _
          have HROW : Hid (∀ (V : World) (v : Value), V.ownsRow w.heap.size 47 2 v ((runsL F j).length + 1) (rnL (runsL F j) ++ [.int .i64 (j : Int), .int .i64 (j : Int)]) → V.ownsRow w.heap.size 47 2 v (runsL F (j + 1)).length (rnL (runsL F (j + 1)))) := fun V v hv => by
            rw [HS.out, hstep, rnL_app, List.length_append]
            exact hv
          have HB : Hid (Below w.heap.size w wr) := hb
          have HJ : Hid (j < n) := hlt
          clear hstep hown hb HS
          rw [hnil] at HOWN HROW HLT hlen ⊢
          have hm0 : ([] : List (Nat × Nat)).length = 0 := rfl
          rw [hm0] at *
          go_wp2_with (first
            | (refine wpList_build1 (by rfl) 43 47 _ (by rfl) #[.int .i64 (j : Int), .int .i64 (j : Int)] (by rfl) i0 _ 2 Tryd.underlying43 hi hz0 hz1 rfl (by decide) (by decide) ?_; simp only [Act.put, List.setIfInBounds_toArray, List.set_cons_zero, List.set_cons_succ])
            | (at_builtin; refine bi_append_at rfl _ _ 43 rfl w.heap.size 47 i0 _ 2 16 Tryd.underlying43 hi hz0 hz1 hz2 rfl (by decide) _ _ _ rfl HOWN.out ⟨wr.heap.size, 0, none⟩ 1 1 [.int .i64 (j : Int), .int .i64 (j : Int)] rfl rfl HNEW.out (fun u hu => by simp at hu; subst hu; rfl) (by unfold maxLen; omega) (by omega) (by simp; omega) ?_)
            | go_in)
          intro v4 w4 hown4 hgrow4 _
          have hb4 : Below w.heap.size w w4 := (HB.out.alloc hbs _).grown hgrow4 (by simp; omega) (fun k hk => (HLT k hk).1)
          obtain ⟨g4, cap4, rfl, hg4, hg4'⟩ := kown_form hown4 (Nat.succ_pos _)
          have hown5 := HROW.out _ _ hown4
          clear hown4 hgrow4 HOWN HNEW HROW HLT
          go_wp2_with fail
          go_roundw
          case rel => exact ⟨j + 1, HJ.out, by go_num, hown5, hb4⟩
          case measure => simp [intOf]; have := HJ.out; omega
        · have hcat : runsL F j = l0 ++ [(r.1, r.2)] := by rw [hcat0]; simp
          clear hcat0
          obtain ⟨a, b⟩ := r
          simp only at hcat
          have hnn : (runsL F j).length = l0.length + 1 := by rw [hcat]; simp
          have hgt : 0 < (runsL F j).length := by omega
          obtain ⟨gl, cl, hve, hgl, hgl2⟩ := kown_form hown hgt
          injection hve with hv1 hv2 hv3
          subst hv1 hv3
          have cb : wr.cell? ⟨gl, ((runsL F j).length - 1) * 2 + 1, none⟩ = some (.int .i64 (b : Int)) := by
            rw [hown.cellAt _ (by omega)]
            have := (rnL_at (runsL F j) ((runsL F j).length - 1) (a, b) (by rw [hcat]; simp)).2
            exact this
          have cf : wr.frozen? ⟨gl, ((runsL F j).length - 1) * 2 + 1, none⟩ = false := hown.frozenAt _
          have hbj := runsL_to F j (a, b) (by rw [hcat]; simp)
          simp only at hbj
          by_cases hbj1 : b + 1 = j
          · have hstep : runStep (runsL F j) j = l0 ++ [(a, j)] := by rw [hcat]; unfold runStep; simp [hbj1]
            have HROW : Hid ((wr.setCell ⟨gl, ((runsL F j).length - 1) * 2 + 1, none⟩ (.int .i64 (j : Int))).ownsRow w.heap.size 47 2 (.slice (some ⟨gl, 0, none⟩) (runsL F j).length lc) (runsL F (j + 1)).length (rnL (runsL F (j + 1)))) := by
              have := (hown.stored (((runsL F j).length - 1) * 2 + 1) (.int .i64 (j : Int))).1
              show World.ownsRow _ _ _ _ _ _ _
              rw [HS.out, hstep]
              rw [show (l0 ++ [(a, j)]).length = (runsL F j).length from by rw [hnn]; simp]
              rw [← rnL_set l0 a b j, ← hcat]
              rw [show l0.length = (runsL F j).length - 1 from by omega]
              exact this
            have HB : Hid (Below w.heap.size w (wr.setCell ⟨gl, ((runsL F j).length - 1) * 2 + 1, none⟩ (.int .i64 (j : Int)))) := hb.setCell (p := ⟨gl, ((runsL F j).length - 1) * 2 + 1, none⟩) hgl _
            have HJ : Hid (j < n) := hlt
            have e1 : (b : Int) = (j : Int) - 1 := by omega
            have hln := hlen
            clear hstep hown hb HS hnn hcat HNEW HLT hbj
            generalize (runsL F j).length = m at *
            have h1 : ¬ ((m : Int) = 0) := by omega
            have h2 : ((m - 1 : Nat) : Int) = (m : Int) - 1 := by omega
            have h3 : (m : Int) - 1 < (m : Int) := by omega
            have h4 : (0 : Int) ≤ (m : Int) - 1 := by omega
            have h5 : ((m : Int) - 1).toNat = m - 1 := by omega
            have h6 : (0 : Int) < (m : Int) := by omega
            go_wp2_with fail
            go_roundw
            case rel => exact ⟨j + 1, HJ.out, by go_num, HROW.out, HB.out⟩
            case measure => simp [intOf]; have := HJ.out; omega
          · have hstep : runStep (runsL F j) j = runsL F j ++ [(j, j)] := by
              rw [hcat]; unfold runStep; simp [hbj1]
            have e1 : ¬ ((b : Int) = (j : Int) - 1) := by omega
            have HOWN : Hid ((wr.alloc (.cells #[.int .i64 (j : Int), .int .i64 (j : Int)] 47)).ownsRow w.heap.size 47 2 (.slice (some ⟨gl, 0, none⟩) (runsL F j).length lc) (runsL F j).length (rnL (runsL F j))) := hown.alloc _
            have HROW : Hid (∀ (V : World) (v : Value), V.ownsRow w.heap.size 47 2 v ((runsL F j).length + 1) (rnL (runsL F j) ++ [.int .i64 (j : Int), .int .i64 (j : Int)]) → V.ownsRow w.heap.size 47 2 v (runsL F (j + 1)).length (rnL (runsL F (j + 1)))) := fun V v hv => by
              rw [HS.out, hstep, rnL_app, List.length_append]
              exact hv
            have HB : Hid (Below w.heap.size w wr) := hb
            have HJ : Hid (j < n) := hlt
            clear hstep hown hb HS
            clear hcat hnn hbj
            generalize (runsL F j).length = m at *
            have h1 : ¬ ((m : Int) = 0) := by omega
            have h2 : ((m - 1 : Nat) : Int) = (m : Int) - 1 := by omega
            have h3 : (m : Int) - 1 < (m : Int) := by omega
            have h4 : (0 : Int) ≤ (m : Int) - 1 := by omega
            have h5 : ((m : Int) - 1).toNat = m - 1 := by omega
            have h6 : (0 : Int) < (m : Int) := by omega
            go_wp2_with (first
              | (refine wpList_build1 (by rfl) 43 47 _ (by rfl) #[.int .i64 (j : Int), .int .i64 (j : Int)] (by rfl) i0 _ 2 Tryd.underlying43 hi hz0 hz1 rfl (by decide) (by decide) ?_; simp only [Act.put, List.setIfInBounds_toArray, List.set_cons_zero, List.set_cons_succ])
              | (at_builtin; refine bi_append_at rfl _ _ 43 rfl w.heap.size 47 i0 _ 2 16 Tryd.underlying43 hi hz0 hz1 hz2 rfl (by decide) _ _ _ rfl HOWN.out ⟨wr.heap.size, 0, none⟩ 1 1 [.int .i64 (j : Int), .int .i64 (j : Int)] rfl rfl HNEW.out (fun u hu => by simp at hu; subst hu; rfl) (by unfold maxLen; omega) (by omega) (by simp; omega) ?_)
              | go_in)
            intro v4 w4 hown4 hgrow4 _
            have hb4 : Below w.heap.size w w4 := (HB.out.alloc hbs _).grown hgrow4 (by simp; omega) (fun k hk => (HLT k hk).1)
            obtain ⟨g4, cap4, rfl, hg4, hg4'⟩ := kown_form hown4 (Nat.succ_pos _)
            have hown5 := HROW.out _ _ hown4
            clear hown4 hgrow4 HOWN HNEW HROW HLT
            go_wp2_with fail
            go_roundw
            case rel => exact ⟨j + 1, HJ.out, by go_num, hown5, hb4⟩
            case measure => simp [intOf]; have := HJ.out; omega
    · obtain rfl : j = n := by omega
      have a1 : ¬ ((j : Int) < (j : Int)) := by omega
      go_wp2_with fail
      go_ret
      exact ⟨_, rfl, hown, hb⟩
/-- the longest stretch so far: its first block, how long -/
def lonS (st r : Nat × Nat) : Nat × Nat := if st.2 < r.2 - r.1 + 1 then (r.1, r.2 - r.1 + 1) else st
def lonF (l : List (Nat × Nat)) : Nat × Nat := l.foldl lonS (0, 0)
theorem lonF_snoc (l : List (Nat × Nat)) (r : Nat × Nat) : lonF (l ++ [r]) = lonS (lonF l) r := by simp [lonF]
theorem lon_le (n : Nat) : ∀ (l : List (Nat × Nat)) (st : Nat × Nat), st.1 ≤ n → st.2 ≤ n → (∀ r ∈ l, r.1 ≤ r.2 ∧ r.2 < n) → (l.foldl lonS st).1 ≤ n ∧ (l.foldl lonS st).2 ≤ n
  | [], st, h1, h2, _ => ⟨h1, h2⟩
  | r :: l, st, h1, h2, h => by
    have hr := h r (by simp)
    rw [List.foldl_cons]
    refine lon_le n l _ ?_ ?_ fun x hx => h x (by simp [hx])
    · unfold lonS; split
      · show r.1 ≤ n; omega
      · exact h1
    · unfold lonS; split
      · show r.2 - r.1 + 1 ≤ n; omega
      · exact h2
section
variable {w : World} {P : Nat → Prop} {r n : Nat} {F G : Nat → Bool}
set_option maxRecDepth 100000 in
set_option maxHeartbeats 4000000 in
theorem rlongest_any (hT : TabAt w) (h0 : 0 < w.heap.size) (h : RoomIs w P r n F G) (s : Int) : Calls Tryd.prog 14 #[.pointer (some ⟨r, 0, none⟩), .int .i64 s] w fun e w' => e = .returned (.tuple #[.int .u32 ((lonF (runsL (inF F G n s) n)).1 : Int), .int .i64 ((lonF (runsL (inF F G n s) n)).2 : Int)]) ∧ Below w.heap.size w w' := by
  have hfa := h.facts
  have HR : Hid (Calls _ _ _ _ _) := rmruns_any hT h0 h s
  have HTO : Hid (∀ x ∈ runsL (inF F G n s) n, x.1 ≤ x.2 ∧ x.2 < n) := fun x hx => by have := runsL_to _ n x hx; exact ⟨this.2.2, this.2.1⟩
  have hlen := runsL_len (inF F G n s) n
  have hn8 : n ≤ 8192 := hfa.2.1
  obtain ⟨L, hL⟩ : ∃ L, runsL (inF F G n s) n = L := ⟨_, rfl⟩
  rw [hL] at HR HTO hlen ⊢
  have HLB : Hid ((lonF L).1 ≤ 8192 ∧ (lonF L).2 ≤ 8192) := by
    have := lon_le n L (0, 0) (Nat.zero_le _) (Nat.zero_le _) HTO.out
    exact ⟨Nat.le_trans this.1 hn8, Nat.le_trans this.2 hn8⟩
  clear h hT hfa hL
  go_enter Tryd.func14, Tryd.ntmps14
  go_wp2_with fail
  refine HR.out.mono ?_
  rintro e w1 ⟨v, rfl, ho, hb⟩
  obtain ⟨la, lc, rfl⟩ := kown_slice ho
  have HO : Hid (∀ V, Below w1.heap.size w1 V → V.ownsRow w.heap.size 47 2 (.slice la L.length lc) L.length (rnL L)) := fun V hV => kown_below ho hV
  have HB : Hid (Below w.heap.size w w1) := hb
  obtain ⟨m, hm⟩ : ∃ m, L.length = m := ⟨_, rfl⟩
  have HM : Hid (L.length = m) := hm
  rw [hm] at hlen HO ⊢
  clear ho hb HR hm
  go_wp2_with fail
  go_loopw [6, 7, 15] (fun v6 v7 v15 wr => Hid (∃ (i a b : Nat), i ≤ m ∧ (a, b) = lonF (L.take i) ∧ a ≤ 8192 ∧ b ≤ 8192 ∧ v6 = .int .i64 (a : Int) ∧ v7 = .int .i64 (b : Int) ∧ v15 = .int .i64 (i : Int) ∧ Below w1.heap.size w1 wr)) (fun _ _ v15 _ => m - (intOf v15).toNat)
  case atStart => exact ⟨0, 0, 0, Nat.zero_le _, rfl, by omega, by omega, rfl, rfl, rfl, Below.refl _ _⟩
  case round =>
    obtain ⟨i, a, b, hi, hab, ha8, hb8, rfl, rfl, rfl, hbw⟩ := Hid.out hrel
    have HAB : Hid ((a, b) = lonF (L.take i)) := hab
    clear hrel hab
    by_cases him : i < m
    · have i1 : (i : Int) < (m : Int) := by omega
      have i2 : (0 : Int) ≤ (i : Int) := by omega
      have hiL : i < L.length := by rw [HM.out]; exact him
      obtain ⟨x, y, hxy⟩ : ∃ x y, L[i]? = some (x, y) := ⟨_, _, List.getElem?_eq_getElem hiL⟩
      have hxyb := HTO.out (x, y) (List.mem_of_getElem? hxy)
      have ho := HO.out wr hbw
      obtain ⟨gl, cl, e, _, _⟩ := kown_form ho (by omega)
      injection e with e1 _ e3
      subst e1 e3
      obtain ⟨q0, q1⟩ := rnL_at L i (x, y) hxy
      have c0 : wr.cell? ⟨gl, i * 2, none⟩ = some (.int .i64 (x : Int)) := by rw [ho.cellAt _ (by omega)]; exact q0
      have c1 : wr.cell? ⟨gl, i * 2 + 1, none⟩ = some (.int .i64 (y : Int)) := by rw [ho.cellAt _ (by omega)]; exact q1
      have hx8 : x ≤ y := hxyb.1
      have hy8 : y < 8192 := by have := hxyb.2; simp only at this; omega
      obtain ⟨z, hz⟩ : ∃ z : Nat, z = y - x + 1 := ⟨_, rfl⟩
      have f1 : IntKind.i64.wrap ((y : Int) - (x : Int)) = ((y - x : Nat) : Int) := by rw [IntKind.wrap_i64]; omega
      have f2 : IntKind.i64.wrap (((y - x : Nat) : Int) + 1) = (z : Int) := by rw [IntKind.wrap_i64]; omega
      have f3 : ((y : Int) - (x : Int)) = ((y - x : Nat) : Int) := by omega
      have f4 : (((y - x : Nat) : Int) + 1) = (z : Int) := by omega
      have htk : L.take (i + 1) = L.take i ++ [(x, y)] := by
        have e2 := (List.getElem?_eq_some_iff.1 hxy).2
        rw [← e2]
        exact (List.take_append_getElem hiL).symm
      have HST : Hid (lonF (L.take (i + 1)) = if b < z then (x, z) else (a, b)) := by
        show _ = _
        rw [htk, lonF_snoc, ← HAB.out, hz]
        rfl
      have HBW : Hid (Below w1.heap.size w1 (wr.alloc (.cells #[.int .i64 (x : Int), .int .i64 (y : Int)] 47))) := hbw.alloc hbw.size _
      have hz8 : z ≤ 8192 := by omega
      clear ho hxyb hxy q0 q1 hiL htk hz hbw
      by_cases hbz : b < z
      · have q : (b : Int) < (z : Int) := by omega
        have HS2 : Hid ((x, z) = lonF (L.take (i + 1))) := by show _ = _; rw [HST.out, if_pos hbz]
        go_wp2_with fail
        go_roundw
        case rel => exact ⟨i + 1, x, z, by omega, HS2.out, by omega, hz8, by first | rfl | go_num | simp, by first | rfl | go_num | simp, by first | rfl | go_num | simp, HBW.out⟩
        case measure => simp [intOf]; omega
      · have q : ¬ ((b : Int) < (z : Int)) := by omega
        have HS2 : Hid ((a, b) = lonF (L.take (i + 1))) := by show _ = _; rw [HST.out, if_neg hbz]
        go_wp2_with fail
        go_roundw
        case rel => exact ⟨i + 1, a, b, by omega, HS2.out, ha8, hb8, by first | rfl | go_num | simp, by first | rfl | go_num | simp, by first | rfl | go_num | simp, HBW.out⟩
        case measure => simp [intOf]; omega
    · have i1 : ¬ ((i : Int) < (m : Int)) := by omega
      obtain rfl : i = m := by omega
      have HE : Hid (lonF L = (a, b)) := by
        show _ = _
        rw [HAB.out, List.take_of_length_le (by rw [HM.out]; exact Nat.le_refl _)]
      have hcv : (a : Int) % 4294967296 = (a : Int) := by omega
      have HBW : Hid (Below w1.heap.size w1 wr) := hbw
      clear hbw
      go_wp2_with fail
      go_ret2
      exact ⟨by rw [HE.out]; rfl, HB.out.trans (HBW.out.mono HB.out.size)⟩
end
end Go.Proofs.YtjlngldmdfbbaaaDoor

namespace Go.Proofs.YtjlngldmdfbbaaaDoor
open Go Go.RowKit
set_option linter.unusedVariables false
set_option linter.unusedSimpArgs false
/-- block m is such a map, and all its keys are told by S -/
def UM (w : World) (m : Nat) (S : Nat → Prop) : Prop := ∃ es clock, w.heap[m]? = some (.map es clock) ∧ ∀ x ∈ es.toList, ∃ b : Nat, x.key = .int .u32 (b : Int) ∧ S b
theorem UM.lt {w : World} {m : Nat} {S : Nat → Prop} (h : UM w m S) : m < w.heap.size := by
  obtain ⟨es, cl, hg, _⟩ := h
  exact (Array.getElem?_eq_some_iff.1 hg).1
theorem UM.keep {w w' : World} {m : Nat} {S : Nat → Prop} (h : UM w m S) (hb : w'.heap[m]? = w.heap[m]?) : UM w' m S := by
  obtain ⟨es, cl, hg, h2⟩ := h
  exact ⟨es, cl, hb.trans hg, h2⟩
theorem UM.mono {w : World} {m : Nat} {S T : Nat → Prop} (h : UM w m S) (hT : ∀ b, S b → T b) : UM w m T := by
  obtain ⟨es, cl, hg, h2⟩ := h
  exact ⟨es, cl, hg, fun x hx => by obtain ⟨b, e, hb⟩ := h2 x hx; exact ⟨b, e, hT b hb⟩⟩
theorem UM.new {w : World} {m k : Nat} (h : w.heap[m]? = some (.map #[] k)) (S : Nat → Prop) : UM w m S := ⟨#[], k, h, fun x hx => by simp at hx⟩
theorem findNow_absent (a : Nat) : ∀ (es : List MapEntry) (i : Nat), (∀ x ∈ es, ∃ b : Nat, x.key = .int .u32 (b : Int) ∧ b ≠ a) → Instr.findNow (.int .u32) (.int .u32 (a : Int)) es i = some none
  | [], i, _ => by simp [Instr.findNow]
  | e :: es, i, h => by
    obtain ⟨b, e1, hb⟩ := h e (by simp)
    have hs : Instr.sameNow (.int .u32) (.int .u32 (a : Int)) e.key = some false := by
      rw [e1]
      have : ((a : Int) == (b : Int)) = false := by simpa using fun q => hb (by omega)
      simp [Instr.sameNow, this]
    have ih := findNow_absent a es (i + 1) fun x hx => h x (by simp [hx])
    simp [Instr.findNow, hs, ih]
section
variable {P : Program} {mt kt et : TypeId}
theorem chk_u32 (hk : P.underlying kt = some (.int .u32)) (e : Bool) (x : Int) (w : World) : (Instr.checkKey e 10000 kt (.int .u32 x)).run P w = .ok () w := by
  rw [show (10000 : Nat) = 9999 + 1 from rfl, Instr.checkKey]
  simp [run_underlying hk]
theorem UM.put (hm : P.underlying mt = some (.map kt et)) (hk : P.underlying kt = some (.int .u32)) {w : World} {m : Nat} {S : Nat → Prop} (h : UM w m S) (a : Nat) (ha : ¬ S a) : ∃ w', (Instr.mapUpdate mt (.map (some m)) (.int .u32 (a : Int)) (.bool true)).run P w = .ok () w' ∧ UM w' m (fun b => b = a ∨ S b) ∧ Only m w w' := by
  obtain ⟨es, cl, hg, h2⟩ := h
  have hgo : (getObj m).run P w = .ok (.map es cl) w := by simp [getObj, Sem.run, hg]
  have hso : ∀ o, (setObj m o).run P w = .ok () { w with heap := w.heap.setIfInBounds m o } := fun o => by simp [setObj, Sem.run, hg]
  have hr : m < w.heap.size := (Array.getElem?_eq_some_iff.1 hg).1
  have hq : (Instr.findKey kt (.int .u32 (a : Int)) es.toList).run P w = .ok none w := by
    have := findNow_absent a es.toList 0 fun x hx => by obtain ⟨b, e, hb⟩ := h2 x hx; exact ⟨b, e, fun q => ha (q ▸ hb)⟩
    simp [Instr.findKey, run_underlying hk, this]
  refine ⟨{ w with heap := w.heap.setIfInBounds m (.map (es.push { key := .int .u32 (a : Int), val := .bool true, born := cl }) (cl + 1)) }, ?_, ⟨es.push { key := .int .u32 (a : Int), val := .bool true, born := cl }, cl + 1, by simp [hr], fun x hx => ?_⟩, ⟨rfl, rfl, rfl, by simp, fun b hb hn => by simp [Array.getElem?_setIfInBounds, Ne.symm hn]⟩⟩
  · simp [Instr.mapUpdate, run_underlying hm, hgo, chk_u32 hk, hq, hso]
  · have hx' : x ∈ es.toList ++ [{ key := .int .u32 (a : Int), val := .bool true, born := cl }] := by simpa using hx
    rcases List.mem_append.1 hx' with q | q
    · obtain ⟨b, e, hb⟩ := h2 x q
      exact ⟨b, e, .inr hb⟩
    · rw [List.mem_singleton.1 q]
      exact ⟨a, rfl, .inl rfl⟩
end
end Go.Proofs.YtjlngldmdfbbaaaDoor

namespace Go.Proofs.YtjlngldmdfbbaaaDoor
open Go Go.RowKit
set_option linter.unusedVariables false
set_option linter.unusedSimpArgs false
/-- two rooms beside each other: one that turns (its blocks: Pr), and its first copy (Pf) -/
structure ST (w V : World) (Pr Pf : Nat → Prop) (r r' n : Nat) (F G : Nat → Bool) : Prop where
  a : RoomIs V Pr r n F G
  b : RoomIs V Pf r' n F F
  c : Below w.heap.size w V
section
variable {w V V' : World} {Pr Pf : Nat → Prop} {r r' n : Nat} {F G G' : Nat → Bool}
theorem ST.below (h : ST w V Pr Pf r r' n F G) (hb : Below V.heap.size V V') : ST w V' Pr Pf r r' n F G := ⟨h.a.below hb, h.b.below hb, h.c.trans (hb.mono h.c.size)⟩
theorem ST.turn (h : ST w V Pr Pf r r' n F G) (ht : Touch Pr V V') (ha : RoomIs V' Pr r n F G') (hd : ∀ k, Pf k → ¬ Pr k) (hw : ∀ k, k < w.heap.size → ¬ Pr k) : ST w V' Pr Pf r r' n F G' := ⟨ha, h.b.apart ht hd, h.c.trans (ht.below h.c.size hw)⟩
/-- what was made between is the room's no more -/
theorem ST.gap (h : ST w V Pr Pf r r' n F G) (hb : Below V.heap.size V V') : ST w V' (fun k => (k < V.heap.size ∧ Pr k) ∨ V'.heap.size ≤ k) Pf r r' n F G := ⟨(h.a.reown fun k hk hp => .inl ⟨hk, hp⟩).below hb, h.b.below hb, h.c.trans (hb.mono h.c.size)⟩
theorem own_u32 {B : Nat} {v : Value} {xs : List Nat} (h : V.ownsRow B 36 1 v xs.length (u32L xs)) : ∃ a cap, v = .slice a xs.length cap ∧ IsU32s V a xs.length fun i => xs.getD i 0 % 4294967296 := by
  obtain ⟨a, cap, rfl⟩ := kown_slice h
  refine ⟨a, cap, rfl, fun i hi => ⟨Nat.mod_lt _ (by decide), ?_⟩⟩
  obtain ⟨g, cap', hv, hg1, hg2⟩ := kown_form h (by omega)
  injection hv with hv1 hv2 hv3
  subst hv1
  refine ⟨g, 0, rfl, hg2, ?_⟩
  subst hv3
  rw [Nat.zero_add, h.cellAt i (by omega)]
  unfold u32L
  rw [List.getElem?_map, List.getElem?_eq_getElem hi]
  show some (Value.int .u32 (((xs[i] : Nat) : Int) % 4294967296)) = some (Value.int .u32 ((xs.getD i 0 % 4294967296 : Nat) : Int))
  rw [List.getD_eq_getElem?_getD, List.getElem?_eq_getElem hi]
  rfl
theorem ones_len (F : Nat → Bool) : ∀ n, (onesL F n).length = cntF F n
  | 0 => rfl
  | n + 1 => by
    rw [onesL_succ, List.length_append, ones_len F n]
    show _ = cntF F n + if F n = true then 1 else 0
    by_cases h : F n = true
    · simp [h]
    · simp [h]
theorem ones_eq {F G : Nat → Bool} {n : Nat} (h : ∀ p, p < n → F p = G p) : onesL F n = onesL G n := by
  unfold onesL
  exact List.filter_congr fun x hx => h x (List.mem_range.1 hx)
end
end Go.Proofs.YtjlngldmdfbbaaaDoor
