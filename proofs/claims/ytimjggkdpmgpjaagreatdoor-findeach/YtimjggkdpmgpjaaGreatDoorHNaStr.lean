/- Stretches of digits, digits as numbers: the program's. -/
import Derived.Test.YtimjggkdpmgpjaaGreatDoorHDiSort1
import Derived.Handy
import Derived.Lib.Bytealg
import Derived.Test.YtimjggkdpmgpjaaGreatDoorHOrders
import Derived.BigQuiet
import Derived.Deep.QuietTactic
import Derived.Test.YtimjggkdpmgpjaaGreatDoorHBytes

namespace Go.Proofs.YtimjggkdpmgpjaaGreatDoor
open Go Go.RowKit
set_option linter.unusedSimpArgs false
set_option linter.unusedVariables false
/-- the stretch [a, b) turned about m -/
def roF {α : Type} (f : Nat → α) (a m b : Nat) : Nat → α := fun p => if a ≤ p ∧ p < a + (b - m) then f (p + (m - a)) else if a ≤ p ∧ p < b then f (p - (b - m)) else f p
theorem ro_long {α : Type} (f : Nat → α) (m i j : Nat) (hi : i ≤ m) (hj : j < i) : roF (swF f (m - i) m j) (m - (i - j)) m (m + j) = roF f (m - i) m (m + j) := by
  funext p
  unfold roF swF
  by_cases c1 : m - i ≤ p ∧ p < m - i + j
  · rw [if_neg (by omega), if_neg (by omega), if_pos (by omega), if_pos (by omega)]
    congr 1
    omega
  · by_cases c2 : m - i ≤ p ∧ p < m + j
    · by_cases c3 : p < m - (i - j) + j
      · rw [if_pos (by omega), if_neg (by omega), if_pos (by omega), if_neg (by omega), if_pos (by omega)]
        congr 1
        omega
      · rw [if_neg (by omega), if_pos (by omega), if_neg (by omega), if_neg (by omega), if_neg (by omega), if_pos (by omega)]
    · rw [if_neg (by omega), if_neg (by omega), if_neg (by omega), if_neg (by omega), if_neg (by omega), if_neg (by omega)]
theorem ro_short {α : Type} (f : Nat → α) (m i j : Nat) (hi : i ≤ m) (hj : i < j) : roF (swF f (m - i) (m + j - i) i) (m - i) m (m + (j - i)) = roF f (m - i) m (m + j) := by
  funext p
  unfold roF swF
  by_cases c1 : m - i ≤ p ∧ p < m - i + (j - i)
  · rw [if_pos (by omega), if_neg (by omega), if_neg (by omega), if_pos (by omega)]
  · by_cases c2 : m - i ≤ p ∧ p < m + (j - i)
    · rw [if_neg (by omega), if_pos (by omega), if_pos (by omega), if_pos (by omega)]
      congr 1
      omega
    · by_cases c3 : m - i ≤ p ∧ p < m + j
      · rw [if_neg (by omega), if_neg (by omega), if_neg (by omega), if_pos (by omega), if_neg (by omega), if_pos (by omega)]
        congr 1
        omega
      · rw [if_neg (by omega), if_neg (by omega), if_neg (by omega), if_neg (by omega), if_neg (by omega), if_neg (by omega)]
theorem ro_even {α : Type} (f : Nat → α) (m i : Nat) (hi : i ≤ m) : swF f (m - i) m i = roF f (m - i) m (m + i) := by
  funext p
  unfold roF swF
  by_cases c1 : m - i ≤ p ∧ p < m - i + i
  · rw [if_pos (by omega), if_pos (by omega)]
    congr 1
    omega
  · by_cases c2 : m ≤ p ∧ p < m + i
    · rw [if_neg (by omega), if_pos (by omega), if_neg (by omega), if_pos (by omega)]
      congr 1
      omega
    · rw [if_neg (by omega), if_neg (by omega), if_neg (by omega), if_neg (by omega)]
set_option maxRecDepth 100000 in
set_option maxHeartbeats 8000000 in
theorem rotate_any (tl : Array Value) (g n c cap a m b : Nat) (N : Nat → Int) (S : Nat → ByteArray) (ham : a < m) (hmb : m < b) (hbn : b ≤ n) (hnc : n ≤ cap) (hn : n ≤ 1000000000000000) (fv : Value) (w : World) (hB : Blk w g 54 (lbC tl cap N S)) : Calls Tryz.prog 209 #[.slice (some ⟨g, 0, none⟩) n c, .int .i64 (a : Int), .int .i64 (m : Int), .int .i64 (b : Int), fv] w fun e w' => e = .returned (.tuple #[]) ∧ Blk w' g 54 (lbC tl cap (roF N a m b) (roF S a m b)) ∧ Turns (fun z => z = g) w w' := by
  have H0 : Hid (Blk w g 54 (lbC tl cap N S)) := hB
  have HSW : Hid (∀ (x y k : Nat) (N1 : Nat → Int) (S1 : Nat → ByteArray) (V : World), x + k ≤ y → y + k ≤ n → Blk V g 54 (lbC tl cap N1 S1) → Calls Tryz.prog 216 #[.slice (some ⟨g, 0, none⟩) n c, .int .i64 (x : Int), .int .i64 (y : Int), .int .i64 (k : Int), fv] V fun e w' => e = .returned (.tuple #[]) ∧ Blk w' g 54 (lbC tl cap (swF N1 x y k) (swF S1 x y k)) ∧ Turns (fun z => z = g) V w') := fun x y k N1 S1 V h1 h2 h3 => swapRange_any tl g n c cap x y k N1 S1 h1 h2 hnc hn fv V h3
  have nb : (n : Int) ≤ 1000000000000000 := by omega
  clear hB
  have w1 : ∀ z : Int, -2000000000000000 ≤ z → z ≤ 3000000000000000 → IntKind.i64.wrap z = z := fun z h1 h2 => by simp [IntKind.wrap, IntKind.signed, IntKind.bits]; omega
  have e1 : IntKind.i64.wrap ((m : Int) - (a : Int)) = ((m - a : Nat) : Int) := by rw [w1 _ (by omega) (by omega)]; omega
  have e2 : IntKind.i64.wrap ((b : Int) - (m : Int)) = ((b - m : Nat) : Int) := by rw [w1 _ (by omega) (by omega)]; omega
  go_enter Tryz.func209, Tryz.ntmps209
  go_wp2_with fail
  go_loopw [10, 11] (fun v10 v11 wr => Hid (∃ (i j : Nat) (N1 : Nat → Int) (S1 : Nat → ByteArray), 0 < i ∧ 0 < j ∧ i ≤ m ∧ m + j ≤ n ∧ v10 = .int .i64 (i : Int) ∧ v11 = .int .i64 (j : Int) ∧ Blk wr g 54 (lbC tl cap N1 S1) ∧ roF N1 (m - i) m (m + j) = roF N a m b ∧ roF S1 (m - i) m (m + j) = roF S a m b ∧ Turns (fun z => z = g) w wr)) (fun v10 v11 _ => (intOf v10).toNat + (intOf v11).toNat)
  case atStart => exact ⟨m - a, b - m, N, S, by omega, by omega, by omega, by omega, by first | rfl | go_num | simp, by first | rfl | go_num | simp, H0.out, by rw [show m - (m - a) = a by omega, show m + (b - m) = b by omega], by rw [show m - (m - a) = a by omega, show m + (b - m) = b by omega], Turns.bel (Below.refl _ _)⟩
  case round =>
    obtain ⟨i, j, N1, S1, hi0, hj0, him, hjn, rfl, rfl, hBi, hN, hS, hTi⟩ := Hid.out hrel
    have HB : Hid (Blk wr g 54 (lbC tl cap N1 S1)) := hBi
    have HN : Hid (roF N1 (m - i) m (m + j) = roF N a m b) := hN
    have HS : Hid (roF S1 (m - i) m (m + j) = roF S a m b) := hS
    have HT : Hid (Turns (fun z => z = g) w wr) := hTi
    clear hrel hBi hN hS hTi H0 e1 e2
    have f1 : IntKind.i64.wrap ((m : Int) - (i : Int)) = ((m - i : Nat) : Int) := by rw [w1 _ (by omega) (by omega)]; omega
    by_cases hij : i = j
    · subst hij
      have q1 : ((i : Int) = (i : Int)) := rfl
      have HC := HSW.out (m - i) m i N1 S1 wr (by omega) (by omega) HB.out
      have HE : Hid (∀ V, Blk V g 54 (lbC tl cap (swF N1 (m - i) m i) (swF S1 (m - i) m i)) → Blk V g 54 (lbC tl cap (roF N a m b) (roF S a m b))) := fun V hV => by
        rw [ro_even N1 m i him, ro_even S1 m i him, HN.out, HS.out] at hV
        exact hV
      clear w1
      go_wp2_with fail
      refine HC.mono ?_
      rintro e w2 ⟨rfl, hb2, ht2⟩
      have HF : Hid (Blk w2 g 54 (lbC tl cap (roF N a m b) (roF S a m b)) ∧ Turns (fun z => z = g) w w2) := ⟨HE.out _ hb2, HT.out.tr ht2⟩
      clear hb2 ht2 HC
      go_wp2_with fail
      go_end0
      exact ⟨rfl, HF.out.1, HF.out.2⟩
    · have q1 : ¬ ((i : Int) = (j : Int)) := by omega
      by_cases hlt : j < i
      · have q2 : (j : Int) < (i : Int) := by omega
        have f2 : IntKind.i64.wrap ((i : Int) - (j : Int)) = ((i - j : Nat) : Int) := by rw [w1 _ (by omega) (by omega)]; omega
        have HC := HSW.out (m - i) m j N1 S1 wr (by omega) (by omega) HB.out
        have HE : Hid (roF (swF N1 (m - i) m j) (m - (i - j)) m (m + j) = roF N a m b ∧ roF (swF S1 (m - i) m j) (m - (i - j)) m (m + j) = roF S a m b) := ⟨by rw [ro_long N1 m i j him hlt]; exact HN.out, by rw [ro_long S1 m i j him hlt]; exact HS.out⟩
        clear w1
        go_wp2_with fail
        refine HC.mono ?_
        rintro e w2 ⟨rfl, hb2, ht2⟩
        have HF : Hid (Blk w2 g 54 (lbC tl cap (swF N1 (m - i) m j) (swF S1 (m - i) m j)) ∧ Turns (fun z => z = g) w w2) := ⟨hb2, HT.out.tr ht2⟩
        clear hb2 ht2 HC
        go_wp2_with fail
        go_roundw
        case rel => exact ⟨i - j, j, _, _, by omega, hj0, by omega, hjn, by first | rfl | go_num | simp, rfl, HF.out.1, HE.out.1, HE.out.2, HF.out.2⟩
        case measure => simp [intOf]; omega
      · have q2 : ¬ ((j : Int) < (i : Int)) := by omega
        have f2 : IntKind.i64.wrap ((j : Int) - (i : Int)) = ((j - i : Nat) : Int) := by rw [w1 _ (by omega) (by omega)]; omega
        obtain ⟨mj, hmj⟩ : ∃ q, q = m + j := ⟨_, rfl⟩
        obtain ⟨y, hy⟩ : ∃ q, q = m + j - i := ⟨_, rfl⟩
        have f3 : IntKind.i64.wrap ((m : Int) + (j : Int)) = (mj : Int) := by rw [w1 _ (by omega) (by omega)]; omega
        have f4 : IntKind.i64.wrap ((mj : Int) - (i : Int)) = (y : Int) := by rw [w1 _ (by omega) (by omega)]; omega
        have HC := HSW.out (m - i) y i N1 S1 wr (by omega) (by omega) HB.out
        have HE : Hid (roF (swF N1 (m - i) y i) (m - i) m (m + (j - i)) = roF N a m b ∧ roF (swF S1 (m - i) y i) (m - i) m (m + (j - i)) = roF S a m b) := ⟨by rw [hy, ro_short N1 m i j him (by omega)]; exact HN.out, by rw [hy, ro_short S1 m i j him (by omega)]; exact HS.out⟩
        clear w1 hmj hy
        go_wp2_with fail
        refine HC.mono ?_
        rintro e w2 ⟨rfl, hb2, ht2⟩
        have HF : Hid (Blk w2 g 54 (lbC tl cap (swF N1 (m - i) y i) (swF S1 (m - i) y i)) ∧ Turns (fun z => z = g) w w2) := ⟨hb2, HT.out.tr ht2⟩
        clear hb2 ht2 HC
        go_wp2_with fail
        go_roundw
        case rel => exact ⟨i, j - i, _, _, hi0, by omega, him, by omega, rfl, by first | rfl | go_num | simp, HF.out.1, HE.out.1, HE.out.2, HF.out.2⟩
        case measure => simp [intOf]; omega
end Go.Proofs.YtimjggkdpmgpjaaGreatDoor

namespace Go.Proofs.YtimjggkdpmgpjaaGreatDoor
open Go Go.RowKit
set_option linter.unusedVariables false
/-- places changed about within [a, b) -/
def Pm (a b : Nat) (s : Nat → Nat) : Prop := (∀ p, ¬ (a ≤ p ∧ p < b) → s p = p) ∧ (∀ p, a ≤ p → p < b → a ≤ s p ∧ s p < b) ∧ ∀ p q, s p = s q → p = q
theorem Pm.refl (a b : Nat) : Pm a b id := ⟨fun _ _ => rfl, fun p h1 h2 => ⟨h1, h2⟩, fun _ _ h => h⟩
theorem Pm.comp {a b : Nat} {s t : Nat → Nat} (h : Pm a b s) (k : Pm a b t) : Pm a b (fun p => s (t p)) := by
  refine ⟨fun p hp => ?_, fun p h1 h2 => ?_, fun p q e => k.2.2 _ _ (h.2.2 _ _ e)⟩
  · show s (t p) = p
    rw [k.1 p hp, h.1 p hp]
  · have := k.2.1 p h1 h2
    exact h.2.1 _ this.1 this.2
theorem Pm.wide {a b a2 b2 : Nat} {s : Nat → Nat} (h : Pm a b s) (h1 : a2 ≤ a) (h2 : b ≤ b2) : Pm a2 b2 s := by
  refine ⟨fun p hp => h.1 p (by omega), fun p k1 k2 => ?_, h.2.2⟩
  by_cases c : a ≤ p ∧ p < b
  · have := h.2.1 p c.1 c.2
    omega
  · rw [h.1 p c]
    exact ⟨k1, k2⟩
theorem ro_at {α : Type} (f : Nat → α) (a m b : Nat) : roF f a m b = fun p => f (roF id a m b p) := by
  funext p
  unfold roF
  by_cases c1 : a ≤ p ∧ p < a + (b - m)
  · rw [if_pos c1, if_pos c1]; rfl
  · rw [if_neg c1, if_neg c1]
    by_cases c2 : a ≤ p ∧ p < b
    · rw [if_pos c2, if_pos c2]; rfl
    · rw [if_neg c2, if_neg c2]; rfl
theorem ro_cases (a m b p : Nat) : (a ≤ p ∧ p < a + (b - m) ∧ roF id a m b p = p + (m - a)) ∨ (a + (b - m) ≤ p ∧ p < b ∧ roF id a m b p = p - (b - m)) ∨ ((p < a ∨ (a + (b - m) ≤ p ∧ b ≤ p)) ∧ roF id a m b p = p) := by
  unfold roF
  by_cases c1 : a ≤ p ∧ p < a + (b - m)
  · rw [if_pos c1]; exact Or.inl ⟨c1.1, c1.2, rfl⟩
  · rw [if_neg c1]
    by_cases c2 : a ≤ p ∧ p < b
    · rw [if_pos c2]; exact Or.inr (Or.inl ⟨by omega, c2.2, rfl⟩)
    · rw [if_neg c2]; exact Or.inr (Or.inr ⟨by omega, rfl⟩)
theorem ro_pm (a m b : Nat) (h1 : a ≤ m) (h2 : m ≤ b) : Pm a b (roF id a m b) := by
  refine ⟨fun p hp => ?_, fun p k1 k2 => ?_, fun p q e => ?_⟩
  · rcases ro_cases a m b p with ⟨c1, c2, c3⟩ | ⟨c1, c2, c3⟩ | ⟨c1, c3⟩ <;> omega
  · rcases ro_cases a m b p with ⟨c1, c2, c3⟩ | ⟨c1, c2, c3⟩ | ⟨c1, c3⟩ <;> omega
  · rcases ro_cases a m b p with ⟨c1, c2, c3⟩ | ⟨c1, c2, c3⟩ | ⟨c1, c3⟩ <;> rcases ro_cases a m b q with ⟨d1, d2, d3⟩ | ⟨d1, d2, d3⟩ | ⟨d1, d3⟩ <;> omega
section
variable {α : Type} {L : α → α → Prop} {f : Nat → α}
/-- none is less than one before it -/
def So (L : α → α → Prop) (f : Nat → α) (a b : Nat) : Prop := ∀ p q, a ≤ p → p < q → q < b → ¬ L (f q) (f p)
/-- none of the second stretch is less than one of the first -/
def Cr (L : α → α → Prop) (f : Nat → α) (a m b : Nat) : Prop := ∀ p q, a ≤ p → p < m → m ≤ q → q < b → ¬ L (f q) (f p)
theorem So.sub {a b a2 b2 : Nat} (h : So L f a b) (h1 : a ≤ a2) (h2 : b2 ≤ b) : So L f a2 b2 := fun p q k1 k2 k3 => h p q (by omega) k2 (by omega)
theorem so_join {a m b : Nat} (h1 : So L f a m) (h2 : So L f m b) (hx : Cr L f a m b) : So L f a b := fun p q k1 k2 k3 => by
  by_cases c1 : q < m
  · exact h1 p q k1 k2 c1
  · by_cases c2 : m ≤ p
    · exact h2 p q c2 k2 k3
    · exact hx p q k1 (by omega) (by omega) k3
theorem Cr.first {a m b : Nat} {s : Nat → Nat} (h : Cr L f a m b) (hs : Pm a m s) : Cr L (fun p => f (s p)) a m b := fun p q k1 k2 k3 k4 => by
  have := hs.2.1 p k1 k2
  show ¬ L (f (s q)) (f (s p))
  rw [hs.1 q (by omega)]
  exact h _ _ this.1 this.2 k3 k4
theorem Cr.second {a m b : Nat} {s : Nat → Nat} (h : Cr L f a m b) (hs : Pm m b s) : Cr L (fun p => f (s p)) a m b := fun p q k1 k2 k3 k4 => by
  have := hs.2.1 q k3 k4
  show ¬ L (f (s q)) (f (s p))
  rw [hs.1 p (by omega)]
  exact h _ _ k1 k2 this.1 this.2
theorem So.apart {a b x y : Nat} {s : Nat → Nat} (h : So L f a b) (hs : Pm x y s) (hd : b ≤ x ∨ y ≤ a) : So L (fun p => f (s p)) a b := fun p q k1 k2 k3 => by
  show ¬ L (f (s q)) (f (s p))
  rw [hs.1 p (by omega), hs.1 q (by omega)]
  exact h p q k1 k2 k3
/-- what the turn makes of two sorted stretches, where the place was sought -/
theorem sym_cut (hT : ∀ x y z, ¬ L y x → ¬ L z y → ¬ L z x) (hA : ∀ x y, L x y → ¬ L y x) {a m b d lo hi st : Nat} (ha : a < m) (hb : m < b) (hd : d = (a + b) / 2)
    (hlo : (m ≤ d ∧ lo = a ∧ hi = m) ∨ (d < m ∧ lo = d + m - b ∧ hi = d)) (h1 : So L f a m) (h2 : So L f m b) (hs : lo ≤ st ∧ st ≤ hi)
    (hl : st = lo ∨ ¬ L (f (d + m - st)) (f (st - 1))) (hr : st = hi ∨ L (f (d + m - 1 - st)) (f st)) :
    a ≤ st ∧ st ≤ m ∧ st ≤ d ∧ m ≤ d + m - st ∧ d ≤ d + m - st ∧ d + m - st ≤ b ∧ So L (roF f st m (d + m - st)) a st ∧ So L (roF f st m (d + m - st)) st d ∧ So L (roF f st m (d + m - st)) d (d + m - st) ∧ So L (roF f st m (d + m - st)) (d + m - st) b ∧ Cr L (roF f st m (d + m - st)) a d b := by
  have g1 : a ≤ st := by omega
  have g2 : st ≤ m := by omega
  have g3 : st ≤ d := by omega
  have g4 : m ≤ d + m - st := by omega
  have g5 : d ≤ d + m - st := by omega
  have g6 : d + m - st ≤ b := by omega
  have hR : ∀ x, ¬ L x x := fun x h => hA x x h h
  have m1 : ∀ p q, a ≤ p → p ≤ q → q < m → ¬ L (f q) (f p) := fun p q k1 k2 k3 => by
    rcases Nat.lt_or_ge p q with c | c
    · exact h1 p q k1 c k3
    · rw [show p = q by omega]; exact hR _
  have m2 : ∀ p q, m ≤ p → p ≤ q → q < b → ¬ L (f q) (f p) := fun p q k1 k2 k3 => by
    rcases Nat.lt_or_ge p q with c | c
    · exact h2 p q k1 c k3
    · rw [show p = q by omega]; exact hR _
  -- the first's low part and the second's high part
  have x1 : ∀ p q, a ≤ p → p < st → d + m - st ≤ q → q < b → ¬ L (f q) (f p) := fun p q k1 k2 k3 k4 => by
    rcases hl with c | c
    · omega
    · exact hT _ _ _ (m1 p (st - 1) k1 (by omega) (by omega)) (hT _ _ _ c (m2 (d + m - st) q (by omega) k3 k4))
  -- the second's low part and the first's high part
  have x2 : ∀ p q, m ≤ p → p < d + m - st → st ≤ q → q < m → ¬ L (f q) (f p) := fun p q k1 k2 k3 k4 => by
    rcases hr with c | c
    · omega
    · exact hT _ _ _ (m2 p (d + m - 1 - st) k1 (by omega) (by omega)) (hT _ _ _ (hA _ _ c) (m1 st q g1 k3 k4))
  have e : ∀ p, roF f st m (d + m - st) p = f (roF id st m (d + m - st) p) := fun p => congrFun (ro_at f st m (d + m - st)) p
  refine ⟨g1, g2, g3, g4, g5, g6, ?_, ?_, ?_, ?_, ?_⟩
  · intro p q k1 k2 k3
    rw [e, e]
    rcases ro_cases st m (d + m - st) p with ⟨c1, c2, c3⟩ | ⟨c1, c2, c3⟩ | ⟨c1, c3⟩ <;> rcases ro_cases st m (d + m - st) q with ⟨d1, d2, d3⟩ | ⟨d1, d2, d3⟩ | ⟨d1, d3⟩ <;> first | (exfalso; omega) | skip
    rw [c3, d3]
    exact h1 p q k1 k2 (by omega)
  · intro p q k1 k2 k3
    rw [e, e]
    rcases ro_cases st m (d + m - st) p with ⟨c1, c2, c3⟩ | ⟨c1, c2, c3⟩ | ⟨c1, c3⟩ <;> rcases ro_cases st m (d + m - st) q with ⟨d1, d2, d3⟩ | ⟨d1, d2, d3⟩ | ⟨d1, d3⟩ <;> first | (exfalso; omega) | skip
    rw [c3, d3]
    exact h2 _ _ (by omega) (by omega) (by omega)
  · intro p q k1 k2 k3
    rw [e, e]
    rcases ro_cases st m (d + m - st) p with ⟨c1, c2, c3⟩ | ⟨c1, c2, c3⟩ | ⟨c1, c3⟩ <;> rcases ro_cases st m (d + m - st) q with ⟨d1, d2, d3⟩ | ⟨d1, d2, d3⟩ | ⟨d1, d3⟩ <;> first | (exfalso; omega) | skip
    rw [c3, d3]
    exact h1 _ _ (by omega) (by omega) (by omega)
  · intro p q k1 k2 k3
    rw [e, e]
    rcases ro_cases st m (d + m - st) p with ⟨c1, c2, c3⟩ | ⟨c1, c2, c3⟩ | ⟨c1, c3⟩ <;> rcases ro_cases st m (d + m - st) q with ⟨d1, d2, d3⟩ | ⟨d1, d2, d3⟩ | ⟨d1, d3⟩ <;> first | (exfalso; omega) | skip
    rw [c3, d3]
    exact h2 _ _ (by omega) (by omega) (by omega)
  · intro p q k1 k2 k3 k4
    rw [e, e]
    rcases ro_cases st m (d + m - st) p with ⟨c1, c2, c3⟩ | ⟨c1, c2, c3⟩ | ⟨c1, c3⟩ <;> rcases ro_cases st m (d + m - st) q with ⟨d1, d2, d3⟩ | ⟨d1, d2, d3⟩ | ⟨d1, d3⟩ <;> rw [c3, d3] <;> first | (exfalso; omega) | exact x2 _ _ (by omega) (by omega) (by omega) (by omega) | exact m2 _ _ (by omega) (by omega) (by omega) | exact x1 _ _ (by omega) (by omega) (by omega) (by omega) | exact m1 _ _ (by omega) (by omega) (by omega)
/-- one entry sought its place in the stretch behind it -/
theorem so_up (hT : ∀ x y z, ¬ L y x → ¬ L z y → ¬ L z x) (hA : ∀ x y, L x y → ¬ L y x) {a b i : Nat} (hi : a + 1 ≤ i ∧ i ≤ b) (h2 : So L f (a + 1) b) (hl : i = a + 1 ∨ L (f (i - 1)) (f a)) (hr : i = b ∨ ¬ L (f i) (f a)) : So L (roF f a (a + 1) i) a b := by
  have hR : ∀ x, ¬ L x x := fun x h => hA x x h h
  have m2 : ∀ p q, a + 1 ≤ p → p ≤ q → q < b → ¬ L (f q) (f p) := fun p q k1 k2 k3 => by
    rcases Nat.lt_or_ge p q with c | c
    · exact h2 p q k1 c k3
    · rw [show p = q by omega]; exact hR _
  have y1 : ∀ p q, a + 1 ≤ p → p < i → q = a → ¬ L (f q) (f p) := fun p q k1 k2 k3 => by
    rcases hl with c | c
    · omega
    · rw [k3]; exact hT _ _ _ (m2 p (i - 1) k1 (by omega) (by omega)) (hA _ _ c)
  have y2 : ∀ p q, p = a → i ≤ q → q < b → ¬ L (f q) (f p) := fun p q k1 k2 k3 => by
    rcases hr with c | c
    · omega
    · rw [k1]; exact hT _ _ _ c (m2 i q (by omega) k2 k3)
  intro p q k1 k2 k3
  rw [congrFun (ro_at f a (a + 1) i) p, congrFun (ro_at f a (a + 1) i) q]
  show ¬ L (f (roF id a (a + 1) i q)) (f (roF id a (a + 1) i p))
  rcases ro_cases a (a + 1) i p with ⟨c1, c2, c3⟩ | ⟨c1, c2, c3⟩ | ⟨c1, c3⟩ <;> rcases ro_cases a (a + 1) i q with ⟨d1, d2, d3⟩ | ⟨d1, d2, d3⟩ | ⟨d1, d3⟩ <;> rw [c3, d3] <;> first | (exfalso; omega) | exact y1 _ _ (by omega) (by omega) (by omega) | exact y2 _ _ (by omega) (by omega) (by omega) | exact m2 _ _ (by omega) (by omega) (by omega)
/-- one entry sought its place in the stretch ahead of it -/
theorem so_down (hT : ∀ x y z, ¬ L y x → ¬ L z y → ¬ L z x) (hA : ∀ x y, L x y → ¬ L y x) {a m i : Nat} (hi : a ≤ i ∧ i ≤ m) (h1 : So L f a m) (hl : i = a ∨ ¬ L (f m) (f (i - 1))) (hr : i = m ∨ L (f m) (f i)) : So L (roF f i m (m + 1)) a (m + 1) := by
  have hR : ∀ x, ¬ L x x := fun x h => hA x x h h
  have m1 : ∀ p q, a ≤ p → p ≤ q → q < m → ¬ L (f q) (f p) := fun p q k1 k2 k3 => by
    rcases Nat.lt_or_ge p q with c | c
    · exact h1 p q k1 c k3
    · rw [show p = q by omega]; exact hR _
  have y1 : ∀ p q, a ≤ p → p < i → q = m → ¬ L (f q) (f p) := fun p q k1 k2 k3 => by
    rcases hl with c | c
    · omega
    · rw [k3]; exact hT _ _ _ (m1 p (i - 1) k1 (by omega) (by omega)) c
  have y2 : ∀ p q, p = m → i ≤ q → q < m → ¬ L (f q) (f p) := fun p q k1 k2 k3 => by
    rcases hr with c | c
    · omega
    · rw [k1]; exact hT _ _ _ (hA _ _ c) (m1 i q (by omega) k2 k3)
  intro p q k1 k2 k3
  rw [congrFun (ro_at f i m (m + 1)) p, congrFun (ro_at f i m (m + 1)) q]
  show ¬ L (f (roF id i m (m + 1) q)) (f (roF id i m (m + 1) p))
  rcases ro_cases i m (m + 1) p with ⟨c1, c2, c3⟩ | ⟨c1, c2, c3⟩ | ⟨c1, c3⟩ <;> rcases ro_cases i m (m + 1) q with ⟨d1, d2, d3⟩ | ⟨d1, d2, d3⟩ | ⟨d1, d3⟩ <;> rw [c3, d3] <;> first | (exfalso; omega) | exact y1 _ _ (by omega) (by omega) (by omega) | exact y2 _ _ (by omega) (by omega) (by omega) | exact m1 _ _ (by omega) (by omega) (by omega)
/-- the swaps, one by one -/
theorem ro_up (f : Nat → α) (a k : Nat) (hk : a ≤ k) (p : Nat) : (if p = k + 1 then roF f a (a + 1) (k + 1) k else if p = k then roF f a (a + 1) (k + 1) (k + 1) else roF f a (a + 1) (k + 1) p) = roF f a (a + 1) (k + 2) p := by
  have e : ∀ x, roF f a (a + 1) (k + 1) x = f (roF id a (a + 1) (k + 1) x) := fun x => congrFun (ro_at f a (a + 1) (k + 1)) x
  rw [congrFun (ro_at f a (a + 1) (k + 2)) p]
  show _ = f (roF id a (a + 1) (k + 2) p)
  by_cases c1 : p = k + 1
  · rw [if_pos c1, e]
    congr 1
    rcases ro_cases a (a + 1) (k + 1) k with ⟨c1, c2, c3⟩ | ⟨c1, c2, c3⟩ | ⟨c1, c3⟩ <;> rcases ro_cases a (a + 1) (k + 2) p with ⟨d1, d2, d3⟩ | ⟨d1, d2, d3⟩ | ⟨d1, d3⟩ <;> omega
  · rw [if_neg c1]
    by_cases c2 : p = k
    · rw [if_pos c2, e]
      congr 1
      rcases ro_cases a (a + 1) (k + 1) (k + 1) with ⟨c1, c2, c3⟩ | ⟨c1, c2, c3⟩ | ⟨c1, c3⟩ <;> rcases ro_cases a (a + 1) (k + 2) p with ⟨d1, d2, d3⟩ | ⟨d1, d2, d3⟩ | ⟨d1, d3⟩ <;> omega
    · rw [if_neg c2, e]
      congr 1
      rcases ro_cases a (a + 1) (k + 1) p with ⟨c1, c2, c3⟩ | ⟨c1, c2, c3⟩ | ⟨c1, c3⟩ <;> rcases ro_cases a (a + 1) (k + 2) p with ⟨d1, d2, d3⟩ | ⟨d1, d2, d3⟩ | ⟨d1, d3⟩ <;> omega
theorem ro_down (f : Nat → α) (m k : Nat) (hk : k + 1 ≤ m) (p : Nat) : (if p = k then roF f (k + 1) m (m + 1) (k + 1) else if p = k + 1 then roF f (k + 1) m (m + 1) k else roF f (k + 1) m (m + 1) p) = roF f k m (m + 1) p := by
  have e : ∀ x, roF f (k + 1) m (m + 1) x = f (roF id (k + 1) m (m + 1) x) := fun x => congrFun (ro_at f (k + 1) m (m + 1)) x
  rw [congrFun (ro_at f k m (m + 1)) p]
  show _ = f (roF id k m (m + 1) p)
  by_cases c1 : p = k
  · rw [if_pos c1, e]
    congr 1
    rcases ro_cases (k + 1) m (m + 1) (k + 1) with ⟨c1, c2, c3⟩ | ⟨c1, c2, c3⟩ | ⟨c1, c3⟩ <;> rcases ro_cases k m (m + 1) p with ⟨d1, d2, d3⟩ | ⟨d1, d2, d3⟩ | ⟨d1, d3⟩ <;> omega
  · rw [if_neg c1]
    by_cases c2 : p = k + 1
    · rw [if_pos c2, e]
      congr 1
      rcases ro_cases (k + 1) m (m + 1) k with ⟨c1, c2, c3⟩ | ⟨c1, c2, c3⟩ | ⟨c1, c3⟩ <;> rcases ro_cases k m (m + 1) p with ⟨d1, d2, d3⟩ | ⟨d1, d2, d3⟩ | ⟨d1, d3⟩ <;> omega
    · rw [if_neg c2, e]
      congr 1
      rcases ro_cases (k + 1) m (m + 1) p with ⟨c1, c2, c3⟩ | ⟨c1, c2, c3⟩ | ⟨c1, c3⟩ <;> rcases ro_cases k m (m + 1) p with ⟨d1, d2, d3⟩ | ⟨d1, d2, d3⟩ | ⟨d1, d3⟩ <;> omega
/-- both halves merged: the whole -/
theorem sym_done {a d b : Nat} {s t : Nat → Nat} (hs : Pm a d s) (ht : Pm d b t) (hx : Cr L f a d b) (h1 : So L (fun p => f (s p)) a d) (h2 : So L (fun p => f (s (t p))) d b) : So L (fun p => f (s (t p))) a b :=
  so_join (f := fun p => f (s (t p))) (h1.apart ht (Or.inl (Nat.le_refl _))) h2 ((hx.first hs).second ht)
end
end Go.Proofs.YtimjggkdpmgpjaaGreatDoor

namespace Go.Proofs.YtimjggkdpmgpjaaGreatDoor
open Go Go.RowKit
set_option linter.unusedSimpArgs false
set_option linter.unusedVariables false
section
variable {α : Type} {L : α → α → Prop} {F : Nat → α} {t : Nat → Nat} {d a b n : Nat}
theorem dv_step {x : Nat} (hx : d ∣ x) (ha : d ∣ a) (h : x < a) : x + d ≤ a := by
  obtain ⟨i, rfl⟩ := hx
  obtain ⟨j, rfl⟩ := ha
  have hij : i < j := Nat.lt_of_mul_lt_mul_left h
  have := Nat.mul_le_mul_left d (show i + 1 ≤ j from hij)
  rw [Nat.mul_add, Nat.mul_one] at this
  exact this
/-- the blocks of d below a are sorted -/
def LoB (L : α → α → Prop) (F : Nat → α) (d a : Nat) : Prop := ∀ x, d ∣ x → x < a → So L F x (x + d)
/-- the blocks of d from a on are sorted -/
def HiB (L : α → α → Prop) (F : Nat → α) (d a n : Nat) : Prop := ∀ x, d ∣ x → a ≤ x → x < n → So L F x (min (x + d) n)
theorem LoB.up (h : LoB L F d a) (ha : d ∣ a) (ht : Pm a b t) (hs : So L (fun p => F (t p)) a (a + d)) : LoB L (fun p => F (t p)) d (a + d) := fun x hx h1 => by
  by_cases c : x < a
  · exact (h x hx c).apart ht (Or.inl (dv_step hx ha c))
  · by_cases c2 : a < x
    · have := dv_step ha hx c2
      omega
    · rw [show x = a by omega]; exact hs
theorem HiB.up (h : HiB L F d a n) (ht : Pm a b t) (hab : a ≤ b) : HiB L (fun p => F (t p)) d b n := fun x hx h1 h2 => (h x hx (by omega) h2).apart ht (Or.inr h1)
theorem hi_of_lo (h : LoB L F d a) (ha : d ∣ a) (han : a ≤ n) (hn : n < a + d) (hs : So L F a n) : HiB L F d 0 n := fun x hx _ h2 => by
  by_cases c : x < a
  · have := dv_step hx ha c
    rw [Nat.min_eq_left (by omega)]
    exact h x hx c
  · by_cases c2 : a < x
    · have := dv_step ha hx c2
      omega
    · rw [show x = a by omega, Nat.min_eq_right (by omega)]; exact hs
end
/-- the entries, changed about -/
def EnS (N : Nat → Int) (S : Nat → ByteArray) (s : Nat → Nat) : Nat → Int × ByteArray := fun p => (N (s p), S (s p))
/-- what insertionSortCmpFunc does -/
def InsC (tl : Array Value) (g n c cap : Nat) (fv : Value) (L : Int × ByteArray → Int × ByteArray → Prop) : Prop := ∀ (a b : Nat) (N : Nat → Int) (S : Nat → ByteArray) (V : World), a ≤ b → b ≤ n → Blk V g 54 (lbC tl cap N S) → Calls Tryz.prog 191 #[.slice (some ⟨g, 0, none⟩) n c, .int .i64 (a : Int), .int .i64 (b : Int), fv] V fun e w' => e = .returned (.tuple #[]) ∧ ∃ s, Pm a b s ∧ Blk w' g 54 (lbC tl cap (fun p => N (s p)) (fun p => S (s p))) ∧ So L (EnS N S s) a b ∧ Turns (fun z => z = g) V w'
/-- what symMergeCmpFunc does -/
def SymC (tl : Array Value) (g n c cap : Nat) (fv : Value) (L : Int × ByteArray → Int × ByteArray → Prop) : Prop := ∀ (a m b : Nat) (N : Nat → Int) (S : Nat → ByteArray) (V : World), a < m → m < b → b ≤ n → Blk V g 54 (lbC tl cap N S) → So L (EnS N S id) a m → So L (EnS N S id) m b → Calls Tryz.prog 192 #[.slice (some ⟨g, 0, none⟩) n c, .int .i64 (a : Int), .int .i64 (m : Int), .int .i64 (b : Int), fv] V fun e w' => e = .returned (.tuple #[]) ∧ ∃ s, Pm a b s ∧ Blk w' g 54 (lbC tl cap (fun p => N (s p)) (fun p => S (s p))) ∧ So L (EnS N S s) a b ∧ Turns (fun z => z = g) V w'
set_option maxRecDepth 100000 in
set_option maxHeartbeats 8000000 in
theorem stable_any (tl : Array Value) (g n c cap : Nat) (fv : Value) (L : Int × ByteArray → Int × ByteArray → Prop) (hI : InsC tl g n c cap fv L) (hS : SymC tl g n c cap fv L) (N : Nat → Int) (S : Nat → ByteArray) (hn : n ≤ 1000000000000000) (w : World) (hB : Blk w g 54 (lbC tl cap N S)) : Calls Tryz.prog 167 #[.slice (some ⟨g, 0, none⟩) n c, .int .i64 (n : Int), fv] w fun e w' => e = .returned (.tuple #[]) ∧ ∃ s, Pm 0 n s ∧ Blk w' g 54 (lbC tl cap (fun p => N (s p)) (fun p => S (s p))) ∧ So L (EnS N S s) 0 n ∧ Turns (fun z => z = g) w w' := by
  have HI : Hid (InsC tl g n c cap fv L) := hI
  have HS : Hid (SymC tl g n c cap fv L) := hS
  have H0 : Hid (Blk w g 54 (lbC tl cap N S)) := hB
  have nb : (n : Int) ≤ 1000000000000000 := by omega
  clear hI hS hB
  have HW : Hid (∀ z : Int, -9000000000000000 ≤ z → z ≤ 9000000000000000 → IntKind.i64.wrap z = z) := fun z h1 h2 => by simp [IntKind.wrap, IntKind.signed, IntKind.bits]; omega
  go_enter Tryz.func167, Tryz.ntmps167
  go_wp2_with fail
  go_loopw [7, 8] (fun v7 v8 wr => Hid (∃ (a b : Nat) (s : Nat → Nat), b = a + 20 ∧ a ≤ n ∧ 20 ∣ a ∧ v7 = .int .i64 (a : Int) ∧ v8 = .int .i64 (b : Int) ∧ Pm 0 n s ∧ Blk wr g 54 (lbC tl cap (fun p => N (s p)) (fun p => S (s p))) ∧ LoB L (EnS N S s) 20 a ∧ Turns (fun z => z = g) w wr)) (fun _ v8 _ => n + 21 - (intOf v8).toNat)
  case atStart => exact ⟨0, 20, id, rfl, Nat.zero_le _, Nat.dvd_zero _, rfl, rfl, Pm.refl _ _, H0.out, fun x _ h => absurd h (Nat.not_lt_zero _), Turns.bel (Below.refl _ _)⟩
  case round =>
    obtain ⟨a, b, s, hb, han, had, rfl, rfl, hPm, hBi, hLo, hTi⟩ := Hid.out hrel
    have HP : Hid (Pm 0 n s) := hPm
    have HB : Hid (Blk wr g 54 (lbC tl cap (fun p => N (s p)) (fun p => S (s p)))) := hBi
    have HL : Hid (LoB L (EnS N S s) 20 a) := hLo
    have HD : Hid (20 ∣ a) := had
    have HT : Hid (Turns (fun z => z = g) w wr) := hTi
    have HQ : Hid (b = a + 20) := hb
    have hab : a ≤ b := by omega
    have hba : n < b → n < a + 20 := by omega
    have b0 : b ≤ 1000000000000020 := by omega
    clear hrel hPm hBi hLo had hTi H0 hb
    by_cases hbn : b ≤ n
    · have i1 : (b : Int) ≤ (n : Int) := by omega
      obtain ⟨b2, hb2⟩ : ∃ q, q = b + 20 := ⟨_, rfl⟩
      have f1 : IntKind.i64.wrap ((b : Int) + 20) = (b2 : Int) := by rw [HW.out _ (by omega) (by omega)]; omega
      have HB2 : Hid (b2 = b + 20) := hb2
      have hlt : b < b2 := by omega
      clear hb2
      have HC := HI.out a b _ _ wr (by omega) hbn HB.out
      go_wp2_with fail
      refine HC.mono ?_
      rintro e w2 ⟨rfl, t, ht, hb3, hs, ht2⟩
      have HE : Hid (Pm 0 n (fun p => s (t p)) ∧ Blk w2 g 54 (lbC tl cap (fun p => N (s (t p))) (fun p => S (s (t p)))) ∧ LoB L (EnS N S (fun p => s (t p))) 20 b ∧ Turns (fun z => z = g) w w2 ∧ 20 ∣ b) := by
        refine ⟨HP.out.comp (ht.wide (Nat.zero_le _) hbn), hb3, ?_, HT.out.tr ht2, by rw [HQ.out]; exact Nat.dvd_add HD.out (Nat.dvd_refl _)⟩
        rw [HQ.out]
        refine HL.out.up HD.out ht ?_
        rw [← HQ.out]
        exact hs
      clear HC ht hb3 hs ht2
      go_wp2_with fail
      go_roundw
      case rel => exact ⟨b, b2, fun p => s (t p), HB2.out, hbn, HE.out.2.2.2.2, rfl, by first | rfl | go_num | simp, HE.out.1, HE.out.2.1, HE.out.2.2.1, HE.out.2.2.2.1⟩
      case measure => simp [intOf]; omega
    · have i1 : ¬ ((b : Int) ≤ (n : Int)) := by omega
      have HC := HI.out a n _ _ wr han (Nat.le_refl _) HB.out
      go_wp2_with fail
      refine HC.mono ?_
      rintro e w2 ⟨rfl, t, ht, hb3, hs, ht2⟩
      have HE : Hid (Pm 0 n (fun p => s (t p)) ∧ Blk w2 g 54 (lbC tl cap (fun p => N (s (t p))) (fun p => S (s (t p)))) ∧ HiB L (EnS N S (fun p => s (t p))) 20 0 n ∧ Turns (fun z => z = g) w w2) := by
        refine ⟨HP.out.comp (ht.wide (Nat.zero_le _) (Nat.le_refl _)), hb3, ?_, HT.out.tr ht2⟩
        refine hi_of_lo (d := 20) (a := a) (fun x hx h1 => ?_) HD.out han (hba (by omega)) hs
        exact (HL.out x hx h1).apart ht (Or.inl (dv_step hx HD.out h1))
      clear HC ht hb3 hs ht2 HP HB HL HD HT
      clear hba hab b0 HQ hbn i1 HI han
      have HX : Hid (∃ s, Pm 0 n s ∧ Blk w2 g 54 (lbC tl cap (fun p => N (s p)) (fun p => S (s p))) ∧ HiB L (EnS N S s) 20 0 n ∧ Turns (fun z => z = g) w w2) := ⟨_, HE.out.1, HE.out.2.1, HE.out.2.2.1, HE.out.2.2.2⟩
      clear HE
      go_wp2_with fail
      go_loopw [6] (fun v6 wr => Hid (∃ (d : Nat) (s : Nat → Nat), 0 < d ∧ v6 = .int .i64 (d : Int) ∧ Pm 0 n s ∧ Blk wr g 54 (lbC tl cap (fun p => N (s p)) (fun p => S (s p))) ∧ HiB L (EnS N S s) d 0 n ∧ Turns (fun z => z = g) w wr)) (fun v6 _ => n - (intOf v6).toNat)
      case atStart =>
        obtain ⟨s1, k1, k2, k3, k4⟩ := HX.out
        exact ⟨20, s1, by omega, rfl, k1, k2, k3, k4⟩
      case round =>
        obtain ⟨d, s1, hd0, rfl, hP1, hB1, hH1, hT1⟩ := Hid.out hrel
        have HP1 : Hid (Pm 0 n s1) := hP1
        have HB1 : Hid (Blk wr g 54 (lbC tl cap (fun p => N (s1 p)) (fun p => S (s1 p)))) := hB1
        have HH1 : Hid (HiB L (EnS N S s1) d 0 n) := hH1
        have HT1 : Hid (Turns (fun z => z = g) w wr) := hT1
        clear hrel hP1 hB1 hH1 hT1 HX
        by_cases hdn : d < n
        · have i1 : (d : Int) < (n : Int) := by omega
          obtain ⟨d2, hd2⟩ : ∃ q, q = 2 * d := ⟨_, rfl⟩
          have f1 : IntKind.i64.wrap (2 * (d : Int)) = (d2 : Int) := by rw [HW.out _ (by omega) (by omega)]; omega
          have f2 : IntKind.i64.wrap ((d : Int) * 2) = (d2 : Int) := by rw [HW.out _ (by omega) (by omega)]; omega
          have HD2 : Hid (d2 = 2 * d) := hd2
          have d20 : d < d2 := by omega
          have d21 : d2 ≤ 2000000000000000 := by omega
          clear hd2
          go_wp2_with fail
          go_loopw [7, 8] (fun v7 v8 wr => Hid (∃ (a b : Nat) (s : Nat → Nat), b = a + d2 ∧ a ≤ n ∧ d2 ∣ a ∧ v7 = .int .i64 (a : Int) ∧ v8 = .int .i64 (b : Int) ∧ Pm 0 n s ∧ Blk wr g 54 (lbC tl cap (fun p => N (s p)) (fun p => S (s p))) ∧ LoB L (EnS N S s) d2 a ∧ HiB L (EnS N S s) d a n ∧ Turns (fun z => z = g) w wr)) (fun _ v8 _ => n + d2 + 1 - (intOf v8).toNat)
          case atStart => exact ⟨0, d2, s1, (Nat.zero_add _).symm, Nat.zero_le _, Nat.dvd_zero _, rfl, by first | rfl | go_num | simp, HP1.out, HB1.out, fun x _ h => absurd h (Nat.not_lt_zero _), HH1.out, HT1.out⟩
          case round =>
            obtain ⟨a, b, s, hb, han, had, rfl, rfl, hPm, hBi, hLo, hHi, hTi⟩ := Hid.out hrel
            have HP : Hid (Pm 0 n s) := hPm
            have HB : Hid (Blk wr g 54 (lbC tl cap (fun p => N (s p)) (fun p => S (s p)))) := hBi
            have HL : Hid (LoB L (EnS N S s) d2 a) := hLo
            have HH : Hid (HiB L (EnS N S s) d a n) := hHi
            have HD : Hid (d2 ∣ a) := had
            have HT : Hid (Turns (fun z => z = g) w wr) := hTi
            have HQ : Hid (b = a + d2) := hb
            have HDD : Hid (d ∣ a) := Nat.dvd_trans ⟨2, by rw [HD2.out, Nat.mul_comm]⟩ had
            have hab : a ≤ b := by omega
            have b0 : b ≤ 3000000000000000 := by omega
            obtain ⟨m, hm⟩ : ∃ q, q = a + d := ⟨_, rfl⟩
            have f3 : IntKind.i64.wrap ((a : Int) + (d : Int)) = (m : Int) := by rw [HW.out _ (by omega) (by omega)]; omega
            have HM : Hid (m = a + d) := hm
            have ham : a < m := by omega
            have hmb : m < b := by have := HD2.out; omega
            have HMD : Hid (d ∣ m) := by show d ∣ m; rw [hm]; exact Nat.dvd_add HDD.out (Nat.dvd_refl _)
            clear hrel hPm hBi hLo hHi had hTi hb hm HP1 HB1 HH1 HT1
            by_cases hbn : b ≤ n
            · have i2 : (b : Int) ≤ (n : Int) := by omega
              obtain ⟨b2, hb2⟩ : ∃ q, q = b + d2 := ⟨_, rfl⟩
              have f4 : IntKind.i64.wrap ((b : Int) + (d2 : Int)) = (b2 : Int) := by rw [HW.out _ (by omega) (by omega)]; omega
              have HB2 : Hid (b2 = b + d2) := hb2
              have hlt : b < b2 := by omega
              clear hb2
              have s1 : So L (EnS N S s) a m := by
                have := HH.out a HDD.out (Nat.le_refl _) (by omega)
                rw [← HM.out, Nat.min_eq_left (by omega)] at this
                exact this
              have s2 : So L (EnS N S s) m b := by
                have := HH.out m HMD.out (by omega) (by omega)
                rw [show m + d = b by have := HM.out; have := HQ.out; have := HD2.out; omega, Nat.min_eq_left (by omega)] at this
                exact this
              have HC := HS.out a m b _ _ wr ham hmb hbn HB.out s1 s2
              clear s1 s2
              go_wp2_with fail
              refine HC.mono ?_
              rintro e w3 ⟨rfl, t, ht, hb3, hs, ht2⟩
              have HE : Hid (Pm 0 n (fun p => s (t p)) ∧ Blk w3 g 54 (lbC tl cap (fun p => N (s (t p))) (fun p => S (s (t p)))) ∧ LoB L (EnS N S (fun p => s (t p))) d2 b ∧ HiB L (EnS N S (fun p => s (t p))) d b n ∧ Turns (fun z => z = g) w w3 ∧ d2 ∣ b) := by
                refine ⟨HP.out.comp (ht.wide (Nat.zero_le _) hbn), hb3, ?_, HH.out.up ht hab, HT.out.tr ht2, by rw [HQ.out]; exact Nat.dvd_add HD.out (Nat.dvd_refl _)⟩
                rw [HQ.out]
                refine HL.out.up HD.out ht ?_
                rw [← HQ.out]
                exact hs
              clear HC ht hb3 hs ht2
              go_wp2_with fail
              go_roundw
              case rel => exact ⟨b, b2, fun p => s (t p), HB2.out, hbn, HE.out.2.2.2.2.2, rfl, by first | rfl | go_num | simp, HE.out.1, HE.out.2.1, HE.out.2.2.1, HE.out.2.2.2.1, HE.out.2.2.2.2.1⟩
              case measure => simp [intOf]; omega
            · have i2 : ¬ ((b : Int) ≤ (n : Int)) := by omega
              by_cases hmn : m < n
              · have i3 : (m : Int) < (n : Int) := by omega
                have s1 : So L (EnS N S s) a m := by
                  have := HH.out a HDD.out (Nat.le_refl _) (by omega)
                  rw [← HM.out, Nat.min_eq_left (by omega)] at this
                  exact this
                have s2 : So L (EnS N S s) m n := by
                  have := HH.out m HMD.out (by omega) (by omega)
                  rw [show m + d = b by have := HM.out; have := HQ.out; have := HD2.out; omega, Nat.min_eq_right (by omega)] at this
                  exact this
                have HC := HS.out a m n _ _ wr ham hmn (Nat.le_refl _) HB.out s1 s2
                clear s1 s2
                go_wp2_with fail
                refine HC.mono ?_
                rintro e w3 ⟨rfl, t, ht, hb3, hs, ht2⟩
                have HE : Hid (Pm 0 n (fun p => s (t p)) ∧ Blk w3 g 54 (lbC tl cap (fun p => N (s (t p))) (fun p => S (s (t p)))) ∧ HiB L (EnS N S (fun p => s (t p))) d2 0 n ∧ Turns (fun z => z = g) w w3) := by
                  refine ⟨HP.out.comp (ht.wide (Nat.zero_le _) (Nat.le_refl _)), hb3, ?_, HT.out.tr ht2⟩
                  refine hi_of_lo (d := d2) (a := a) (fun x hx h1 => ?_) HD.out han (by have := HQ.out; omega) hs
                  exact (HL.out x hx h1).apart ht (Or.inl (dv_step hx HD.out h1))
                clear HC ht hb3 hs ht2
                go_wp2_with fail
                go_roundw
                case rel => exact ⟨d2, fun p => s (t p), by omega, by first | rfl | go_num | simp, HE.out.1, HE.out.2.1, HE.out.2.2.1, HE.out.2.2.2⟩
                case measure => simp [intOf]; omega
              · have i3 : ¬ ((m : Int) < (n : Int)) := by omega
                have HE : Hid (HiB L (EnS N S s) d2 0 n) := by
                  refine hi_of_lo (d := d2) (a := a) HL.out HD.out han (by have := HQ.out; omega) ?_
                  by_cases hc : a < n
                  · have := HH.out a HDD.out (Nat.le_refl _) hc
                    rw [← HM.out, Nat.min_eq_right (by omega)] at this
                    exact this
                  · exact fun p q k1 k2 k3 => absurd k3 (by omega)
                go_wp2_with fail
                go_roundw
                case rel => exact ⟨d2, s, by omega, by first | rfl | go_num | simp, HP.out, HB.out, HE.out, HT.out⟩
                case measure => simp [intOf]; omega
        · have i1 : ¬ ((d : Int) < (n : Int)) := by omega
          have HE : Hid (So L (EnS N S s1) 0 n) := by
            by_cases hc : 0 < n
            · have := HH1.out 0 (Nat.dvd_zero _) (Nat.le_refl _) hc
              rw [Nat.zero_add, Nat.min_eq_right (by omega)] at this
              exact this
            · exact fun p q k1 k2 k3 => absurd k3 (by omega)
          go_wp2_with fail
          go_end0
          exact ⟨rfl, s1, HP1.out, HB1.out, HE.out, HT1.out⟩
end Go.Proofs.YtimjggkdpmgpjaaGreatDoor

namespace Go.Nam
open Go.Lib

def lexN : List Nat → List Nat → Int
  | [], [] => 0
  | [], _ :: _ => -1
  | _ :: _, [] => 1
  | a :: x, b :: y => if a < b then -1 else if b < a then 1 else lexN x y

theorem lexN_flip : ∀ x y : List Nat, lexN y x = - lexN x y
  | [], [] => rfl
  | [], _ :: _ => rfl
  | _ :: _, [] => rfl
  | a :: x, b :: y => by
    have ih := lexN_flip x y
    simp only [lexN]
    repeat' split
    all_goals first | omega | rfl

theorem lexN_zero : ∀ x y : List Nat, lexN x y = 0 ↔ x = y
  | [], [] => by simp [lexN]
  | [], _ :: _ => by simp [lexN]
  | _ :: _, [] => by simp [lexN]
  | a :: x, b :: y => by
    have ih := lexN_zero x y
    simp only [lexN, List.cons.injEq]
    by_cases h1 : a < b
    · rw [if_pos h1]; constructor
      · intro h; cases h
      · rintro ⟨rfl, _⟩; omega
    · rw [if_neg h1]
      by_cases h2 : b < a
      · rw [if_pos h2]; constructor
        · intro h; cases h
        · rintro ⟨rfl, _⟩; omega
      · rw [if_neg h2, ih]
        have : a = b := by omega
        simp [this]

theorem lexN_one : ∀ x y : List Nat, lexN x y = -1 ∨ lexN x y = 0 ∨ lexN x y = 1
  | [], [] => by simp [lexN]
  | [], _ :: _ => by simp [lexN]
  | _ :: _, [] => by simp [lexN]
  | a :: x, b :: y => by
    have ih := lexN_one x y
    simp only [lexN]
    repeat' split
    all_goals first | omega | exact ih

theorem lexN_trans : ∀ x y z : List Nat, lexN x y ≤ 0 → lexN y z ≤ 0 → lexN x z ≤ 0 ∧ (lexN x z = 0 → lexN x y = 0 ∧ lexN y z = 0)
  | [], [], z, h1, h2 => ⟨h2, fun h => ⟨rfl, h⟩⟩
  | [], _ :: _, [], h1, h2 => by simp [lexN] at h2
  | [], _ :: _, _ :: _, h1, h2 => by simp [lexN]
  | _ :: _, [], _, h1, h2 => by simp [lexN] at h1
  | _ :: _, _ :: _, [], h1, h2 => by simp [lexN] at h2
  | a :: x, b :: y, c :: z, h1, h2 => by
    have ih := lexN_trans x y z
    simp only [lexN] at h1 h2 ⊢
    repeat' split at h1
    all_goals repeat' split at h2
    all_goals repeat' split
    all_goals first | omega | (have := ih (by omega) (by omega); omega)

/-- The library's order of bytes is this one. -/
theorem cmp_lex : ∀ x y : List UInt8, compareBytes x y = lexN (x.map (·.toNat)) (y.map (·.toNat))
  | [], [] => rfl
  | [], _ :: _ => rfl
  | _ :: _, [] => rfl
  | a :: x, b :: y => by
    have ih := cmp_lex x y
    simp only [compareBytes, List.map_cons, lexN, ih, UInt8.lt_iff_toNat_lt]

theorem map_inj {a b : List UInt8} (h : a.map (·.toNat) = b.map (·.toNat)) : a = b := by
  induction a generalizing b with
  | nil => cases b with
    | nil => rfl
    | cons => simp at h
  | cons x a ih => cases b with
    | nil => simp at h
    | cons y b =>
      simp only [List.map_cons, List.cons.injEq] at h
      rw [ih h.2, UInt8.toNat_inj.1 h.1]

theorem cmp_zero {a b : List UInt8} : compareBytes a b = 0 ↔ a = b := by
  rw [cmp_lex, lexN_zero]
  constructor
  · exact map_inj
  · rintro rfl; rfl

theorem cmp_flip (a b : List UInt8) : compareBytes b a = - compareBytes a b := by rw [cmp_lex, cmp_lex, lexN_flip]

theorem cmp_one (a b : List UInt8) : compareBytes a b = -1 ∨ compareBytes a b = 0 ∨ compareBytes a b = 1 := by rw [cmp_lex]; exact lexN_one _ _
end Go.Nam

namespace Go.Proofs.YtimjggkdpmgpjaaGreatDoor
set_option maxRecDepth 20000
open Go Go.RowKit Go.Nam
set_option linter.unusedVariables false
set_option linter.unusedSimpArgs false
theorem compare_any (a b : ByteArray) (w : World) :
    Calls Tryz.prog 140 #[.string a, .string b] w fun e w' => e = .returned (.int .i64 (Lib.compareBytes a.data.toList b.data.toList)) ∧ w' = w := by
  have HC := scompare_any a b
  generalize Lib.compareBytes a.data.toList b.data.toList = c at HC
  go_enter Tryz.func140, Tryz.ntmps140
  go_wp2_with (first | (go_at_call 168; refine (HC _).mono ?_; rintro e w' ⟨rfl, rfl⟩))
  go_ret
  exact ⟨rfl, rfl⟩
theorem dropAt {l : List UInt8} {i : Nat} {c : UInt8} (h : l[i]? = some c) : l.drop i = c :: l.drop (i + 1) := by
  obtain ⟨h1, h2⟩ := List.getElem?_eq_some_iff.1 h
  rw [← h2]; exact List.drop_eq_getElem_cons h1
theorem cmp_drop_nil {a b : List UInt8} (i : Nat) (hb : i < b.length) (ha : a.length ≤ i) : Lib.compareBytes (a.drop i) (b.drop i) = -1 := by
  rw [List.drop_eq_nil_of_le ha, List.drop_eq_getElem_cons hb]; rfl
theorem cmp_nil_drop {a b : List UInt8} (i : Nat) (ha : i < a.length) (hb : b.length ≤ i) : Lib.compareBytes (a.drop i) (b.drop i) = 1 := by
  rw [List.drop_eq_nil_of_le hb, List.drop_eq_getElem_cons ha]; rfl
theorem cmp_nil_nil {a b : List UInt8} (i : Nat) (ha : a.length ≤ i) (hb : b.length ≤ i) : Lib.compareBytes (a.drop i) (b.drop i) = 0 := by
  rw [List.drop_eq_nil_of_le hb, List.drop_eq_nil_of_le ha]; rfl
end Go.Proofs.YtimjggkdpmgpjaaGreatDoor

namespace Go.Proofs.YtimjggkdpmgpjaaGreatDoor
set_option maxRecDepth 20000
open Go Go.RowKit Go.Nam
set_option linter.unusedVariables false
set_option linter.unusedSimpArgs false
def orC (x y : Int) : Int := if x ≠ 0 then x else y
set_option maxHeartbeats 4000000 in
theorem or_two (x y : Int) (g : Nat) (w : World) (h0 : w.cell? ⟨g, 0, none⟩ = some (.int .i64 x)) (h1 : w.cell? ⟨g, 1, none⟩ = some (.int .i64 y)) :
    Calls Tryz.prog 139 #[.slice (some ⟨g, 0, none⟩) 2 2] w fun e w' => e = .returned (.int .i64 (orC x y)) ∧ w' = w := by
  go_enter Tryz.func139, Tryz.ntmps139
  go_wp2_with fail
  go_loop [8] (fun v => Hid (∃ i : Nat, v = .int .i64 (i : Int) ∧ (i = 0 ∨ (i = 1 ∧ x = 0) ∨ (i = 2 ∧ x = 0 ∧ y = 0)))) (fun v => 2 - (intOf v).toNat)
  case atStart => exact ⟨0, rfl, Or.inl rfl⟩
  case round =>
    obtain ⟨i, rfl, hi⟩ := Hid.out hrel
    clear hrel
    rcases hi with rfl | ⟨rfl, hx⟩ | ⟨rfl, hx, hy⟩
    · by_cases hx : x = 0
      · have hb : (x != 0) = false := by rw [hx]; rfl
        have HX : Hid (x = 0) := hx
        clear hx
        go_wp2_with fail
        go_round
        case rel => exact ⟨1, by first | rfl | go_num | simp, Or.inr (Or.inl ⟨rfl, HX.out⟩)⟩
        case measure => simp [intOf]
      · have hb : (x != 0) = true := bne_iff_ne.2 hx
        have HX : Hid (orC x y = x) := if_pos hx
        clear hx
        go_wp2_with fail
        go_ret
        exact ⟨by rw [HX.out]; rfl, rfl⟩
    · have HX : Hid (x = 0) := hx
      by_cases hy : y = 0
      · have hb : (y != 0) = false := by rw [hy]; rfl
        have HY : Hid (y = 0) := hy
        clear hx hy
        go_wp2_with fail
        go_round
        case rel => exact ⟨2, by first | rfl | go_num | simp, Or.inr (Or.inr ⟨rfl, HX.out, HY.out⟩)⟩
        case measure => simp [intOf]
      · have hb : (y != 0) = true := bne_iff_ne.2 hy
        have HO : Hid (orC x y = y) := if_neg (by simp [hx])
        clear hx hy
        go_wp2_with fail
        go_ret
        exact ⟨by rw [HO.out]; rfl, rfl⟩
    · have HO : Hid (orC x y = 0) := by show _ = _; unfold orC; rw [if_neg (by simp [hx]), hy]
      clear hx hy
      go_wp2_with fail
      go_ret
      exact ⟨by rw [HO.out]; rfl, rfl⟩
end Go.Proofs.YtimjggkdpmgpjaaGreatDoor
