/- A caller's entries appended to a new slice; a slice of entries as an argument. -/
import Derived.Test.YtimjggkdpmgpjaaGreatDoorHDiSortM
import Derived.Handy
import Derived.Lib.Bytealg
import Derived.Test.YtimjggkdpmgpjaaGreatDoorHOrders
import Derived.BigQuiet
import Derived.Deep.QuietTactic
import Derived.Test.YtimjggkdpmgpjaaGreatDoorHBytes
import Derived.Test.YtimjggkdpmgpjaaGreatDoorHMath
import Derived.Deep.MidRow
import Derived.Test.YtimjggkdpmgpjaaGreatDoorHNaGiven
import GoSem.Claim
import GoSem.ClaimJoined
import GoSem.ClaimMapViews
import Derived.JoinedTies
import Derived.KernelRfl
import Derived.RowKit
import Derived.WalkKit
import Derived.ProofKit
import Derived.OpenShut
import Derived.Carry
import Derived.Deep.Slices
import Derived.Lib.SmallJoins
import Derived.SizedLaws
import Derived.SliceStrings
import Derived.ChangeArms
import Derived.Laws.AppendOwnNone

namespace Go.Proofs.YtimjggkdpmgpjaaGreatDoor
theorem sgLHNaJoinB : (∀ (α : Type) (a : α) (l r : List α), (a :: l) ++ r = a :: (l ++ r)) ∧ (∀ (α : Type) (l : List α), [] ++ l = l) ∧ (∀ (α : Type) (l : List α), l ++ [] = l) ∧ (∀ (α β : Type) (f : α → Option β) (a : α) (l : List α), (a :: l).filterMap f = match f a with | none => l.filterMap f | some b => b :: l.filterMap f) ∧ (∀ (α β : Type) (f : α → Option β), [].filterMap f = []) ∧ (∀ (α : Type) (l : List α) (i : Nat), l.toArray[i]? = l[i]?) ∧ (∀ (α : Type) (a : α) (l : List α), (a :: l)[0]? = some a) ∧ (∀ (α : Type) (a : α) (l : List α) (i : Nat), (a :: l)[i + 1]? = l[i]?) :=
  ⟨fun _ _ _ _ => List.cons_append, fun _ _ => List.nil_append _, fun _ _ => List.append_nil _, fun _ _ _ _ _ => List.filterMap_cons, fun _ _ _ => List.filterMap_nil, fun _ _ _ => List.getElem?_toArray, fun _ _ _ => List.getElem?_cons_zero, fun _ _ _ _ => List.getElem?_cons_succ⟩
theorem sgPHNaJoinB : (∀ (α : Type) (l : List α) (i : Nat) (a : α), l.toArray.setIfInBounds i a = (l.set i a).toArray) ∧ (∀ (α : Type) (a b : α) (l : List α), (a :: l).set 0 b = b :: l) ∧ (∀ (α : Type) (a b : α) (l : List α) (i : Nat), (a :: l).set (i + 1) b = a :: l.set i b) :=
  ⟨fun _ _ _ _ => List.setIfInBounds_toArray _ _ _, fun _ _ _ _ => List.set_cons_zero, fun _ _ _ _ _ => List.set_cons_succ⟩
end Go.Proofs.YtimjggkdpmgpjaaGreatDoor
namespace Go.Proofs.YtimjggkdpmgpjaaGreatDoor
open Go Go.RowKit
set_option linter.unusedSimpArgs false
set_option linter.unusedVariables false
section
variable {α : Type} {L : α → α → Prop} {F : Nat → α} {t : Nat → Nat} {d a b n : Nat}
theorem dv_step {x : Nat} (hx : d ∣ x) (ha : d ∣ a) (h : x < a) : x + d ≤ a := by
  obtain ⟨i, rfl⟩ := hx
  obtain ⟨j, rfl⟩ := ha
  have hij : i < j := Nat.lt_of_mul_lt_mul_left h
  have := Nat.mul_le_mul_left d (show i + 1 ≤ j from hij)
  rw [Nat.mul_add, Nat.mul_one] at this
  exact this
/-- the blocks of d below a are sorted -/
def LoB (L : α → α → Prop) (F : Nat → α) (d a : Nat) : Prop := ∀ x, d ∣ x → x < a → So L F x (x + d)
/-- the blocks of d from a on are sorted -/
def HiB (L : α → α → Prop) (F : Nat → α) (d a n : Nat) : Prop := ∀ x, d ∣ x → a ≤ x → x < n → So L F x (min (x + d) n)
theorem LoB.up (h : LoB L F d a) (ha : d ∣ a) (ht : Pm a b t) (hs : So L (fun p => F (t p)) a (a + d)) : LoB L (fun p => F (t p)) d (a + d) := fun x hx h1 => by
  by_cases c : x < a
  · exact (h x hx c).apart ht (Or.inl (dv_step hx ha c))
  · by_cases c2 : a < x
    · have := dv_step ha hx c2
      omega
    · rw [show x = a by omega]; exact hs
theorem HiB.up (h : HiB L F d a n) (ht : Pm a b t) (hab : a ≤ b) : HiB L (fun p => F (t p)) d b n := fun x hx h1 h2 => (h x hx (by omega) h2).apart ht (Or.inr h1)
theorem hi_of_lo (h : LoB L F d a) (ha : d ∣ a) (han : a ≤ n) (hn : n < a + d) (hs : So L F a n) : HiB L F d 0 n := fun x hx _ h2 => by
  by_cases c : x < a
  · have := dv_step hx ha c
    rw [Nat.min_eq_left (by omega)]
    exact h x hx c
  · by_cases c2 : a < x
    · have := dv_step ha hx c2
      omega
    · rw [show x = a by omega, Nat.min_eq_right (by omega)]; exact hs
end
/-- the entries, changed about -/
def EnS (N : Nat → Int) (S : Nat → ByteArray) (s : Nat → Nat) : Nat → Int × ByteArray := fun p => (N (s p), S (s p))
/-- what insertionSortCmpFunc does -/
def InsC (tl : Array Value) (g n c cap : Nat) (fv : Value) (L : Int × ByteArray → Int × ByteArray → Prop) : Prop := ∀ (a b : Nat) (N : Nat → Int) (S : Nat → ByteArray) (V : World), a ≤ b → b ≤ n → Blk V g 54 (lbC tl cap N S) → Calls Tryz.prog 191 #[.slice (some ⟨g, 0, none⟩) n c, .int .i64 (a : Int), .int .i64 (b : Int), fv] V fun e w' => e = .returned (.tuple #[]) ∧ ∃ s, Pm a b s ∧ Blk w' g 54 (lbC tl cap (fun p => N (s p)) (fun p => S (s p))) ∧ So L (EnS N S s) a b ∧ Turns (fun z => z = g) V w'
/-- what symMergeCmpFunc does -/
def SymC (tl : Array Value) (g n c cap : Nat) (fv : Value) (L : Int × ByteArray → Int × ByteArray → Prop) : Prop := ∀ (a m b : Nat) (N : Nat → Int) (S : Nat → ByteArray) (V : World), a < m → m < b → b ≤ n → Blk V g 54 (lbC tl cap N S) → So L (EnS N S id) a m → So L (EnS N S id) m b → Calls Tryz.prog 192 #[.slice (some ⟨g, 0, none⟩) n c, .int .i64 (a : Int), .int .i64 (m : Int), .int .i64 (b : Int), fv] V fun e w' => e = .returned (.tuple #[]) ∧ ∃ s, Pm a b s ∧ Blk w' g 54 (lbC tl cap (fun p => N (s p)) (fun p => S (s p))) ∧ So L (EnS N S s) a b ∧ Turns (fun z => z = g) V w'
set_option maxRecDepth 100000 in
set_option maxHeartbeats 8000000 in
theorem stable_any (tl : Array Value) (g n c cap : Nat) (fv : Value) (L : Int × ByteArray → Int × ByteArray → Prop) (hI : InsC tl g n c cap fv L) (hS : SymC tl g n c cap fv L) (N : Nat → Int) (S : Nat → ByteArray) (hn : n ≤ 1000000000000000) (w : World) (hB : Blk w g 54 (lbC tl cap N S)) : Calls Tryz.prog 167 #[.slice (some ⟨g, 0, none⟩) n c, .int .i64 (n : Int), fv] w fun e w' => e = .returned (.tuple #[]) ∧ ∃ s, Pm 0 n s ∧ Blk w' g 54 (lbC tl cap (fun p => N (s p)) (fun p => S (s p))) ∧ So L (EnS N S s) 0 n ∧ Turns (fun z => z = g) w w' := by
  have HI : Hid (InsC tl g n c cap fv L) := hI
  have HS : Hid (SymC tl g n c cap fv L) := hS
  have H0 : Hid (Blk w g 54 (lbC tl cap N S)) := hB
  have nb : (n : Int) ≤ 1000000000000000 := by omega
  clear hI hS hB
  have HW : Hid (∀ z : Int, -9000000000000000 ≤ z → z ≤ 9000000000000000 → IntKind.i64.wrap z = z) := fun z h1 h2 => by simp [IntKind.wrap, IntKind.signed, IntKind.bits]; omega
  go_enter Tryz.func167, Tryz.ntmps167
  go_wp2_with fail
  go_loopw [7, 8] (fun v7 v8 wr => Hid (∃ (a b : Nat) (s : Nat → Nat), b = a + 20 ∧ a ≤ n ∧ 20 ∣ a ∧ v7 = .int .i64 (a : Int) ∧ v8 = .int .i64 (b : Int) ∧ Pm 0 n s ∧ Blk wr g 54 (lbC tl cap (fun p => N (s p)) (fun p => S (s p))) ∧ LoB L (EnS N S s) 20 a ∧ Turns (fun z => z = g) w wr)) (fun _ v8 _ => n + 21 - (intOf v8).toNat)
  case atStart => exact ⟨0, 20, id, rfl, Nat.zero_le _, Nat.dvd_zero _, rfl, rfl, Pm.refl _ _, H0.out, fun x _ h => absurd h (Nat.not_lt_zero _), Turns.bel (Below.refl _ _)⟩
  case round =>
    obtain ⟨a, b, s, hb, han, had, rfl, rfl, hPm, hBi, hLo, hTi⟩ := Hid.out hrel
    have HP : Hid (Pm 0 n s) := hPm
    have HB : Hid (Blk wr g 54 (lbC tl cap (fun p => N (s p)) (fun p => S (s p)))) := hBi
    have HL : Hid (LoB L (EnS N S s) 20 a) := hLo
    have HD : Hid (20 ∣ a) := had
    have HT : Hid (Turns (fun z => z = g) w wr) := hTi
    have HQ : Hid (b = a + 20) := hb
    have hab : a ≤ b := by omega
    have hba : n < b → n < a + 20 := by omega
    have b0 : b ≤ 1000000000000020 := by omega
    clear hrel hPm hBi hLo had hTi H0 hb
    by_cases hbn : b ≤ n
    · have i1 : (b : Int) ≤ (n : Int) := by omega
      obtain ⟨b2, hb2⟩ : ∃ q, q = b + 20 := ⟨_, rfl⟩
      have f1 : IntKind.i64.wrap ((b : Int) + 20) = (b2 : Int) := by rw [HW.out _ (by omega) (by omega)]; omega
      have HB2 : Hid (b2 = b + 20) := hb2
      have hlt : b < b2 := by omega
      clear hb2
      have HC := HI.out a b _ _ wr (by omega) hbn HB.out
      go_wp2_with fail
      refine HC.mono ?_
      rintro e w2 ⟨rfl, t, ht, hb3, hs, ht2⟩
      have HE : Hid (Pm 0 n (fun p => s (t p)) ∧ Blk w2 g 54 (lbC tl cap (fun p => N (s (t p))) (fun p => S (s (t p)))) ∧ LoB L (EnS N S (fun p => s (t p))) 20 b ∧ Turns (fun z => z = g) w w2 ∧ 20 ∣ b) := by
        refine ⟨HP.out.comp (ht.wide (Nat.zero_le _) hbn), hb3, ?_, HT.out.tr ht2, by rw [HQ.out]; exact Nat.dvd_add HD.out (Nat.dvd_refl _)⟩
        rw [HQ.out]
        refine HL.out.up HD.out ht ?_
        rw [← HQ.out]
        exact hs
      clear HC ht hb3 hs ht2
      go_wp2_with fail
      go_roundw
      case rel => exact ⟨b, b2, fun p => s (t p), HB2.out, hbn, HE.out.2.2.2.2, rfl, by first | rfl | go_num | simp, HE.out.1, HE.out.2.1, HE.out.2.2.1, HE.out.2.2.2.1⟩
      case measure => simp [intOf]; omega
    · have i1 : ¬ ((b : Int) ≤ (n : Int)) := by omega
      have HC := HI.out a n _ _ wr han (Nat.le_refl _) HB.out
      go_wp2_with fail
      refine HC.mono ?_
      rintro e w2 ⟨rfl, t, ht, hb3, hs, ht2⟩
      have HE : Hid (Pm 0 n (fun p => s (t p)) ∧ Blk w2 g 54 (lbC tl cap (fun p => N (s (t p))) (fun p => S (s (t p)))) ∧ HiB L (EnS N S (fun p => s (t p))) 20 0 n ∧ Turns (fun z => z = g) w w2) := by
        refine ⟨HP.out.comp (ht.wide (Nat.zero_le _) (Nat.le_refl _)), hb3, ?_, HT.out.tr ht2⟩
        refine hi_of_lo (d := 20) (a := a) (fun x hx h1 => ?_) HD.out han (hba (by omega)) hs
        exact (HL.out x hx h1).apart ht (Or.inl (dv_step hx HD.out h1))
      clear HC ht hb3 hs ht2 HP HB HL HD HT
      clear hba hab b0 HQ hbn i1 HI han
      have HX : Hid (∃ s, Pm 0 n s ∧ Blk w2 g 54 (lbC tl cap (fun p => N (s p)) (fun p => S (s p))) ∧ HiB L (EnS N S s) 20 0 n ∧ Turns (fun z => z = g) w w2) := ⟨_, HE.out.1, HE.out.2.1, HE.out.2.2.1, HE.out.2.2.2⟩
      clear HE
      go_wp2_with fail
      go_loopw [6] (fun v6 wr => Hid (∃ (d : Nat) (s : Nat → Nat), 0 < d ∧ v6 = .int .i64 (d : Int) ∧ Pm 0 n s ∧ Blk wr g 54 (lbC tl cap (fun p => N (s p)) (fun p => S (s p))) ∧ HiB L (EnS N S s) d 0 n ∧ Turns (fun z => z = g) w wr)) (fun v6 _ => n - (intOf v6).toNat)
      case atStart =>
        obtain ⟨s1, k1, k2, k3, k4⟩ := HX.out
        exact ⟨20, s1, by omega, rfl, k1, k2, k3, k4⟩
      case round =>
        obtain ⟨d, s1, hd0, rfl, hP1, hB1, hH1, hT1⟩ := Hid.out hrel
        have HP1 : Hid (Pm 0 n s1) := hP1
        have HB1 : Hid (Blk wr g 54 (lbC tl cap (fun p => N (s1 p)) (fun p => S (s1 p)))) := hB1
        have HH1 : Hid (HiB L (EnS N S s1) d 0 n) := hH1
        have HT1 : Hid (Turns (fun z => z = g) w wr) := hT1
        clear hrel hP1 hB1 hH1 hT1 HX
        by_cases hdn : d < n
        · have i1 : (d : Int) < (n : Int) := by omega
          obtain ⟨d2, hd2⟩ : ∃ q, q = 2 * d := ⟨_, rfl⟩
          have f1 : IntKind.i64.wrap (2 * (d : Int)) = (d2 : Int) := by rw [HW.out _ (by omega) (by omega)]; omega
          have f2 : IntKind.i64.wrap ((d : Int) * 2) = (d2 : Int) := by rw [HW.out _ (by omega) (by omega)]; omega
          have HD2 : Hid (d2 = 2 * d) := hd2
          have d20 : d < d2 := by omega
          have d21 : d2 ≤ 2000000000000000 := by omega
          clear hd2
          go_wp2_with fail
          go_loopw [7, 8] (fun v7 v8 wr => Hid (∃ (a b : Nat) (s : Nat → Nat), b = a + d2 ∧ a ≤ n ∧ d2 ∣ a ∧ v7 = .int .i64 (a : Int) ∧ v8 = .int .i64 (b : Int) ∧ Pm 0 n s ∧ Blk wr g 54 (lbC tl cap (fun p => N (s p)) (fun p => S (s p))) ∧ LoB L (EnS N S s) d2 a ∧ HiB L (EnS N S s) d a n ∧ Turns (fun z => z = g) w wr)) (fun _ v8 _ => n + d2 + 1 - (intOf v8).toNat)
          case atStart => exact ⟨0, d2, s1, (Nat.zero_add _).symm, Nat.zero_le _, Nat.dvd_zero _, rfl, by first | rfl | go_num | simp, HP1.out, HB1.out, fun x _ h => absurd h (Nat.not_lt_zero _), HH1.out, HT1.out⟩
          case round =>
            obtain ⟨a, b, s, hb, han, had, rfl, rfl, hPm, hBi, hLo, hHi, hTi⟩ := Hid.out hrel
            have HP : Hid (Pm 0 n s) := hPm
            have HB : Hid (Blk wr g 54 (lbC tl cap (fun p => N (s p)) (fun p => S (s p)))) := hBi
            have HL : Hid (LoB L (EnS N S s) d2 a) := hLo
            have HH : Hid (HiB L (EnS N S s) d a n) := hHi
            have HD : Hid (d2 ∣ a) := had
            have HT : Hid (Turns (fun z => z = g) w wr) := hTi
            have HQ : Hid (b = a + d2) := hb
            have HDD : Hid (d ∣ a) := Nat.dvd_trans ⟨2, by rw [HD2.out, Nat.mul_comm]⟩ had
            have hab : a ≤ b := by omega
            have b0 : b ≤ 3000000000000000 := by omega
            obtain ⟨m, hm⟩ : ∃ q, q = a + d := ⟨_, rfl⟩
            have f3 : IntKind.i64.wrap ((a : Int) + (d : Int)) = (m : Int) := by rw [HW.out _ (by omega) (by omega)]; omega
            have HM : Hid (m = a + d) := hm
            have ham : a < m := by omega
            have hmb : m < b := by have := HD2.out; omega
            have HMD : Hid (d ∣ m) := by show d ∣ m; rw [hm]; exact Nat.dvd_add HDD.out (Nat.dvd_refl _)
            clear hrel hPm hBi hLo hHi had hTi hb hm HP1 HB1 HH1 HT1
            by_cases hbn : b ≤ n
            · have i2 : (b : Int) ≤ (n : Int) := by omega
              obtain ⟨b2, hb2⟩ : ∃ q, q = b + d2 := ⟨_, rfl⟩
              have f4 : IntKind.i64.wrap ((b : Int) + (d2 : Int)) = (b2 : Int) := by rw [HW.out _ (by omega) (by omega)]; omega
              have HB2 : Hid (b2 = b + d2) := hb2
              have hlt : b < b2 := by omega
              clear hb2
              have s1 : So L (EnS N S s) a m := by
                have := HH.out a HDD.out (Nat.le_refl _) (by omega)
                rw [← HM.out, Nat.min_eq_left (by omega)] at this
                exact this
              have s2 : So L (EnS N S s) m b := by
                have := HH.out m HMD.out (by omega) (by omega)
                rw [show m + d = b by have := HM.out; have := HQ.out; have := HD2.out; omega, Nat.min_eq_left (by omega)] at this
                exact this
              have HC := HS.out a m b _ _ wr ham hmb hbn HB.out s1 s2
              clear s1 s2
              go_wp2_with fail
              refine HC.mono ?_
              rintro e w3 ⟨rfl, t, ht, hb3, hs, ht2⟩
              have HE : Hid (Pm 0 n (fun p => s (t p)) ∧ Blk w3 g 54 (lbC tl cap (fun p => N (s (t p))) (fun p => S (s (t p)))) ∧ LoB L (EnS N S (fun p => s (t p))) d2 b ∧ HiB L (EnS N S (fun p => s (t p))) d b n ∧ Turns (fun z => z = g) w w3 ∧ d2 ∣ b) := by
                refine ⟨HP.out.comp (ht.wide (Nat.zero_le _) hbn), hb3, ?_, HH.out.up ht hab, HT.out.tr ht2, by rw [HQ.out]; exact Nat.dvd_add HD.out (Nat.dvd_refl _)⟩
                rw [HQ.out]
                refine HL.out.up HD.out ht ?_
                rw [← HQ.out]
                exact hs
              clear HC ht hb3 hs ht2
              go_wp2_with fail
              go_roundw
              case rel => exact ⟨b, b2, fun p => s (t p), HB2.out, hbn, HE.out.2.2.2.2.2, rfl, by first | rfl | go_num | simp, HE.out.1, HE.out.2.1, HE.out.2.2.1, HE.out.2.2.2.1, HE.out.2.2.2.2.1⟩
              case measure => simp [intOf]; omega
            · have i2 : ¬ ((b : Int) ≤ (n : Int)) := by omega
              by_cases hmn : m < n
              · have i3 : (m : Int) < (n : Int) := by omega
                have s1 : So L (EnS N S s) a m := by
                  have := HH.out a HDD.out (Nat.le_refl _) (by omega)
                  rw [← HM.out, Nat.min_eq_left (by omega)] at this
                  exact this
                have s2 : So L (EnS N S s) m n := by
                  have := HH.out m HMD.out (by omega) (by omega)
                  rw [show m + d = b by have := HM.out; have := HQ.out; have := HD2.out; omega, Nat.min_eq_right (by omega)] at this
                  exact this
                have HC := HS.out a m n _ _ wr ham hmn (Nat.le_refl _) HB.out s1 s2
                clear s1 s2
                go_wp2_with fail
                refine HC.mono ?_
                rintro e w3 ⟨rfl, t, ht, hb3, hs, ht2⟩
                have HE : Hid (Pm 0 n (fun p => s (t p)) ∧ Blk w3 g 54 (lbC tl cap (fun p => N (s (t p))) (fun p => S (s (t p)))) ∧ HiB L (EnS N S (fun p => s (t p))) d2 0 n ∧ Turns (fun z => z = g) w w3) := by
                  refine ⟨HP.out.comp (ht.wide (Nat.zero_le _) (Nat.le_refl _)), hb3, ?_, HT.out.tr ht2⟩
                  refine hi_of_lo (d := d2) (a := a) (fun x hx h1 => ?_) HD.out han (by have := HQ.out; omega) hs
                  exact (HL.out x hx h1).apart ht (Or.inl (dv_step hx HD.out h1))
                clear HC ht hb3 hs ht2
                go_wp2_with fail
                go_roundw
                case rel => exact ⟨d2, fun p => s (t p), by omega, by first | rfl | go_num | simp, HE.out.1, HE.out.2.1, HE.out.2.2.1, HE.out.2.2.2⟩
                case measure => simp [intOf]; omega
              · have i3 : ¬ ((m : Int) < (n : Int)) := by omega
                have HE : Hid (HiB L (EnS N S s) d2 0 n) := by
                  refine hi_of_lo (d := d2) (a := a) HL.out HD.out han (by have := HQ.out; omega) ?_
                  by_cases hc : a < n
                  · have := HH.out a HDD.out (Nat.le_refl _) hc
                    rw [← HM.out, Nat.min_eq_right (by omega)] at this
                    exact this
                  · exact fun p q k1 k2 k3 => absurd k3 (by omega)
                go_wp2_with fail
                go_roundw
                case rel => exact ⟨d2, s, by omega, by first | rfl | go_num | simp, HP.out, HB.out, HE.out, HT.out⟩
                case measure => simp [intOf]; omega
        · have i1 : ¬ ((d : Int) < (n : Int)) := by omega
          have HE : Hid (So L (EnS N S s1) 0 n) := by
            by_cases hc : 0 < n
            · have := HH1.out 0 (Nat.dvd_zero _) (Nat.le_refl _) hc
              rw [Nat.zero_add, Nat.min_eq_right (by omega)] at this
              exact this
            · exact fun p q k1 k2 k3 => absurd k3 (by omega)
          go_wp2_with fail
          go_end0
          exact ⟨rfl, s1, HP1.out, HB1.out, HE.out, HT1.out⟩
end Go.Proofs.YtimjggkdpmgpjaaGreatDoor

namespace Go.Nam
open Go.Lib

def lexN : List Nat → List Nat → Int
  | [], [] => 0
  | [], _ :: _ => -1
  | _ :: _, [] => 1
  | a :: x, b :: y => if a < b then -1 else if b < a then 1 else lexN x y

theorem lexN_flip : ∀ x y : List Nat, lexN y x = - lexN x y
  | [], [] => rfl
  | [], _ :: _ => rfl
  | _ :: _, [] => rfl
  | a :: x, b :: y => by
    have ih := lexN_flip x y
    simp only [lexN]
    repeat' split
    all_goals first | omega | rfl

theorem lexN_zero : ∀ x y : List Nat, lexN x y = 0 ↔ x = y
  | [], [] => by simp [lexN]
  | [], _ :: _ => by simp [lexN]
  | _ :: _, [] => by simp [lexN]
  | a :: x, b :: y => by
    have ih := lexN_zero x y
    simp only [lexN, List.cons.injEq]
    by_cases h1 : a < b
    · rw [if_pos h1]; constructor
      · intro h; cases h
      · rintro ⟨rfl, _⟩; omega
    · rw [if_neg h1]
      by_cases h2 : b < a
      · rw [if_pos h2]; constructor
        · intro h; cases h
        · rintro ⟨rfl, _⟩; omega
      · rw [if_neg h2, ih]
        have : a = b := by omega
        simp [this]

theorem lexN_one : ∀ x y : List Nat, lexN x y = -1 ∨ lexN x y = 0 ∨ lexN x y = 1
  | [], [] => by simp [lexN]
  | [], _ :: _ => by simp [lexN]
  | _ :: _, [] => by simp [lexN]
  | a :: x, b :: y => by
    have ih := lexN_one x y
    simp only [lexN]
    repeat' split
    all_goals first | omega | exact ih

theorem lexN_trans : ∀ x y z : List Nat, lexN x y ≤ 0 → lexN y z ≤ 0 → lexN x z ≤ 0 ∧ (lexN x z = 0 → lexN x y = 0 ∧ lexN y z = 0)
  | [], [], z, h1, h2 => ⟨h2, fun h => ⟨rfl, h⟩⟩
  | [], _ :: _, [], h1, h2 => by simp [lexN] at h2
  | [], _ :: _, _ :: _, h1, h2 => by simp [lexN]
  | _ :: _, [], _, h1, h2 => by simp [lexN] at h1
  | _ :: _, _ :: _, [], h1, h2 => by simp [lexN] at h2
  | a :: x, b :: y, c :: z, h1, h2 => by
    have ih := lexN_trans x y z
    simp only [lexN] at h1 h2 ⊢
    repeat' split at h1
    all_goals repeat' split at h2
    all_goals repeat' split
    all_goals first | omega | (have := ih (by omega) (by omega); omega)

/-- The library's order of bytes is this one. -/
theorem cmp_lex : ∀ x y : List UInt8, compareBytes x y = lexN (x.map (·.toNat)) (y.map (·.toNat))
  | [], [] => rfl
  | [], _ :: _ => rfl
  | _ :: _, [] => rfl
  | a :: x, b :: y => by
    have ih := cmp_lex x y
    simp only [compareBytes, List.map_cons, lexN, ih, UInt8.lt_iff_toNat_lt]

theorem map_inj {a b : List UInt8} (h : a.map (·.toNat) = b.map (·.toNat)) : a = b := by
  induction a generalizing b with
  | nil => cases b with
    | nil => rfl
    | cons => simp at h
  | cons x a ih => cases b with
    | nil => simp at h
    | cons y b =>
      simp only [List.map_cons, List.cons.injEq] at h
      rw [ih h.2, UInt8.toNat_inj.1 h.1]

theorem cmp_zero {a b : List UInt8} : compareBytes a b = 0 ↔ a = b := by
  rw [cmp_lex, lexN_zero]
  constructor
  · exact map_inj
  · rintro rfl; rfl

theorem cmp_flip (a b : List UInt8) : compareBytes b a = - compareBytes a b := by rw [cmp_lex, cmp_lex, lexN_flip]

theorem cmp_one (a b : List UInt8) : compareBytes a b = -1 ∨ compareBytes a b = 0 ∨ compareBytes a b = 1 := by rw [cmp_lex]; exact lexN_one _ _
end Go.Nam

namespace Go.Proofs.YtimjggkdpmgpjaaGreatDoor
set_option maxRecDepth 20000
open Go Go.RowKit Go.Nam
set_option linter.unusedVariables false
set_option linter.unusedSimpArgs false
theorem compare_any (a b : ByteArray) (w : World) :
    Calls Tryz.prog 140 #[.string a, .string b] w fun e w' => e = .returned (.int .i64 (Lib.compareBytes a.data.toList b.data.toList)) ∧ w' = w := by
  have HC := scompare_any a b
  generalize Lib.compareBytes a.data.toList b.data.toList = c at HC
  go_enter Tryz.func140, Tryz.ntmps140
  go_wp2_with (first | (go_at_call 168; refine (HC _).mono ?_; rintro e w' ⟨rfl, rfl⟩))
  go_ret
  exact ⟨rfl, rfl⟩
theorem dropAt {l : List UInt8} {i : Nat} {c : UInt8} (h : l[i]? = some c) : l.drop i = c :: l.drop (i + 1) := by
  obtain ⟨h1, h2⟩ := List.getElem?_eq_some_iff.1 h
  rw [← h2]; exact List.drop_eq_getElem_cons h1
theorem cmp_drop_nil {a b : List UInt8} (i : Nat) (hb : i < b.length) (ha : a.length ≤ i) : Lib.compareBytes (a.drop i) (b.drop i) = -1 := by
  rw [List.drop_eq_nil_of_le ha, List.drop_eq_getElem_cons hb]; rfl
theorem cmp_nil_drop {a b : List UInt8} (i : Nat) (ha : i < a.length) (hb : b.length ≤ i) : Lib.compareBytes (a.drop i) (b.drop i) = 1 := by
  rw [List.drop_eq_nil_of_le hb, List.drop_eq_getElem_cons ha]; rfl
theorem cmp_nil_nil {a b : List UInt8} (i : Nat) (ha : a.length ≤ i) (hb : b.length ≤ i) : Lib.compareBytes (a.drop i) (b.drop i) = 0 := by
  rw [List.drop_eq_nil_of_le hb, List.drop_eq_nil_of_le ha]; rfl
end Go.Proofs.YtimjggkdpmgpjaaGreatDoor

namespace Go.Proofs.YtimjggkdpmgpjaaGreatDoor
set_option maxRecDepth 20000
open Go Go.RowKit Go.Nam
set_option linter.unusedVariables false
set_option linter.unusedSimpArgs false
def orC (x y : Int) : Int := if x ≠ 0 then x else y
set_option maxHeartbeats 4000000 in
theorem or_two (x y : Int) (g : Nat) (w : World) (h0 : w.cell? ⟨g, 0, none⟩ = some (.int .i64 x)) (h1 : w.cell? ⟨g, 1, none⟩ = some (.int .i64 y)) :
    Calls Tryz.prog 139 #[.slice (some ⟨g, 0, none⟩) 2 2] w fun e w' => e = .returned (.int .i64 (orC x y)) ∧ w' = w := by
  go_enter Tryz.func139, Tryz.ntmps139
  go_wp2_with fail
  go_loop [8] (fun v => Hid (∃ i : Nat, v = .int .i64 (i : Int) ∧ (i = 0 ∨ (i = 1 ∧ x = 0) ∨ (i = 2 ∧ x = 0 ∧ y = 0)))) (fun v => 2 - (intOf v).toNat)
  case atStart => exact ⟨0, rfl, Or.inl rfl⟩
  case round =>
    obtain ⟨i, rfl, hi⟩ := Hid.out hrel
    clear hrel
    rcases hi with rfl | ⟨rfl, hx⟩ | ⟨rfl, hx, hy⟩
    · by_cases hx : x = 0
      · have hb : (x != 0) = false := by rw [hx]; rfl
        have HX : Hid (x = 0) := hx
        clear hx
        go_wp2_with fail
        go_round
        case rel => exact ⟨1, by first | rfl | go_num | simp, Or.inr (Or.inl ⟨rfl, HX.out⟩)⟩
        case measure => simp [intOf]
      · have hb : (x != 0) = true := bne_iff_ne.2 hx
        have HX : Hid (orC x y = x) := if_pos hx
        clear hx
        go_wp2_with fail
        go_ret
        exact ⟨by rw [HX.out]; rfl, rfl⟩
    · have HX : Hid (x = 0) := hx
      by_cases hy : y = 0
      · have hb : (y != 0) = false := by rw [hy]; rfl
        have HY : Hid (y = 0) := hy
        clear hx hy
        go_wp2_with fail
        go_round
        case rel => exact ⟨2, by first | rfl | go_num | simp, Or.inr (Or.inr ⟨rfl, HX.out, HY.out⟩)⟩
        case measure => simp [intOf]
      · have hb : (y != 0) = true := bne_iff_ne.2 hy
        have HO : Hid (orC x y = y) := if_neg (by simp [hx])
        clear hx hy
        go_wp2_with fail
        go_ret
        exact ⟨by rw [HO.out]; rfl, rfl⟩
    · have HO : Hid (orC x y = 0) := by show _ = _; unfold orC; rw [if_neg (by simp [hx]), hy]
      clear hx hy
      go_wp2_with fail
      go_ret
      exact ⟨by rw [HO.out]; rfl, rfl⟩
end Go.Proofs.YtimjggkdpmgpjaaGreatDoor

namespace Go.Proofs.YtimjggkdpmgpjaaGreatDoor
open Go Go.RowKit Go.Nam
set_option linter.unusedVariables false
set_option linter.unusedSimpArgs false
/-- entries compared: by name, then by inode -/
def lcC (x y : Int × ByteArray) : Int := orC (Lib.compareBytes x.2.data.toList y.2.data.toList) (Lib.compareInt x.1 y.1)
/-- less -/
def LkL (x y : Int × ByteArray) : Prop := lcC x y < 0
theorem ci_one (x y : Int) : Lib.compareInt x y = -1 ∧ x < y ∨ Lib.compareInt x y = 0 ∧ x = y ∨ Lib.compareInt x y = 1 ∧ y < x := by
  unfold Lib.compareInt
  by_cases h : x < y
  · rw [if_pos h]; exact .inl ⟨rfl, h⟩
  · rw [if_neg h]
    by_cases h2 : x > y
    · rw [if_pos h2]; exact .inr (.inr ⟨rfl, h2⟩)
    · rw [if_neg h2]; exact .inr (.inl ⟨rfl, by omega⟩)
theorem lcC_iff (x y : Int × ByteArray) : LkL x y ↔ (Lib.compareBytes x.2.data.toList y.2.data.toList = -1 ∨ (x.2.data.toList = y.2.data.toList ∧ x.1 < y.1)) := by
  unfold LkL lcC orC
  rcases cmp_one x.2.data.toList y.2.data.toList with h | h | h
  · rw [if_pos (by omega), h]
    simp
  · rw [if_neg (by omega), h]
    have := cmp_zero.1 h
    rcases ci_one x.1 y.1 with ⟨e, hx⟩ | ⟨e, hx⟩ | ⟨e, hx⟩ <;> rw [e] <;> simp [this] <;> omega
  · rw [if_pos (by omega), h]
    have hne : x.2.data.toList ≠ y.2.data.toList := fun e => by have := cmp_zero.2 e; omega
    simp [hne]
theorem cmp_lt {x y z : List UInt8} (h1 : Lib.compareBytes x y = -1) (h2 : Lib.compareBytes y z = -1) : Lib.compareBytes x z = -1 := by
  have h0 := cmp_one x z
  rw [cmp_lex] at *
  obtain ⟨h3, h4⟩ := lexN_trans _ _ _ (Int.le_trans (Int.le_of_eq h1) (by decide)) (Int.le_trans (Int.le_of_eq h2) (by decide))
  rcases h0 with h | h | h
  · exact h
  · have := (h4 h).1; omega
  · omega
theorem lk_not (x y : Int × ByteArray) : ¬ LkL y x ↔ (Lib.compareBytes x.2.data.toList y.2.data.toList = -1 ∨ (x.2.data.toList = y.2.data.toList ∧ x.1 ≤ y.1)) := by
  rw [lcC_iff]
  rcases cmp_one x.2.data.toList y.2.data.toList with h | h | h
  · have h2 : Lib.compareBytes y.2.data.toList x.2.data.toList = 1 := by rw [cmp_flip]; omega
    have hne : y.2.data.toList ≠ x.2.data.toList := fun e => by have := cmp_zero.2 e; omega
    simp [h, h2, hne]
  · have e := cmp_zero.1 h
    have h2 : Lib.compareBytes y.2.data.toList x.2.data.toList = 0 := cmp_zero.2 e.symm
    constructor
    · intro hh
      exact .inr ⟨e, Int.not_lt.1 fun q => hh (.inr ⟨e.symm, q⟩)⟩
    · rintro (q | ⟨_, q⟩) (q2 | ⟨_, q2⟩)
      · omega
      · omega
      · omega
      · omega
  · have h2 : Lib.compareBytes y.2.data.toList x.2.data.toList = -1 := by rw [cmp_flip]; omega
    have hne : x.2.data.toList ≠ y.2.data.toList := fun e => by have := cmp_zero.2 e; omega
    simp [h, h2, hne]
theorem lk_T (x y z : Int × ByteArray) (h1 : ¬ LkL y x) (h2 : ¬ LkL z y) : ¬ LkL z x := by
  rw [lk_not] at *
  rcases h1 with h1 | ⟨h1, h3⟩
  · rcases h2 with h2 | ⟨h2, h4⟩
    · exact .inl (cmp_lt h1 h2)
    · rw [h2] at h1; exact .inl h1
  · rcases h2 with h2 | ⟨h2, h4⟩
    · rw [← h1] at h2; exact .inl h2
    · exact .inr ⟨h1.trans h2, by omega⟩
theorem lk_A (x y : Int × ByteArray) (h : LkL x y) : ¬ LkL y x := by
  rw [lk_not]
  rw [lcC_iff] at h
  rcases h with h | ⟨h, h2⟩
  · exact .inl h
  · exact .inr ⟨h, by omega⟩
theorem lk_eq {x y : Int × ByteArray} (h1 : ¬ LkL x y) (h2 : ¬ LkL y x) : x = y := by
  rw [lk_not] at h1 h2
  rcases h1 with h1 | ⟨h1, h3⟩
  · rcases h2 with h2 | ⟨h2, h4⟩
    · rw [cmp_flip] at h1; omega
    · have := cmp_zero.2 h2.symm; omega
  · rcases h2 with h2 | ⟨h2, h4⟩
    · have := cmp_zero.2 h1.symm; omega
    · refine Prod.ext (by omega) ?_
      cases hx : x.2; cases hy : y.2
      rw [hx, hy] at h2
      simp at h2
      rw [h2]
set_option maxRecDepth 100000 in
set_option maxHeartbeats 4000000 in
theorem sortCmp_any (i j : Int) (s t : ByteArray) (w : World) : Calls Tryz.prog 138 #[.agg #[.int .i64 i, .string s], .agg #[.int .i64 j, .string t]] w fun e w' => e = .returned (.int .i64 (lcC (i, s) (j, t))) ∧ Below w.heap.size w w' := by
  have HC : Hid (∀ w : World, Calls Tryz.prog 140 #[.string s, .string t] w fun e w' => e = .returned (.int .i64 (Lib.compareBytes s.data.toList t.data.toList)) ∧ w' = w) := compare_any s t
  have HI : Hid (∀ w : World, Calls Tryz.prog 141 #[.int .i64 i, .int .i64 j] w fun e w' => e = .returned (.int .i64 (Lib.compareInt i j)) ∧ w' = w) := compareInt_any _ _
  have HN : Hid (orC (Lib.compareBytes s.data.toList t.data.toList) (Lib.compareInt i j) = lcC (i, s) (j, t)) := rfl
  generalize Lib.compareBytes s.data.toList t.data.toList = c at *
  generalize Lib.compareInt i j = d at *
  generalize lcC (i, s) (j, t) = r at *
  go_enter Tryz.func138, Tryz.ntmps138
  go_wp2_with fail
  have KX : Hid (Blk ((w.alloc (.cells #[.int .i64 i, .string s] 54)).alloc (.cells #[.int .i64 j, .string t] 54)) w.heap.size 54 #[.int .i64 i, .string s]) := (Blk.new w 54 _).alloc _
  have KY : Hid (Blk ((w.alloc (.cells #[.int .i64 i, .string s] 54)).alloc (.cells #[.int .i64 j, .string t] 54)) (w.heap.size + 1) 54 #[.int .i64 j, .string t]) := by
    have := Blk.new (w.alloc (.cells #[.int .i64 i, .string s] 54)) 54 #[.int .i64 j, .string t]
    show Blk _ _ _ _
    simpa using this
  have HBW : Hid (Below w.heap.size w ((w.alloc (.cells #[.int .i64 i, .string s] 54)).alloc (.cells #[.int .i64 j, .string t] 54))) := ((Below.refl _ w).alloc (Nat.le_refl _) _).alloc (by simp) _
  generalize (w.alloc (.cells #[.int .i64 i, .string s] 54)).alloc (.cells #[.int .i64 j, .string t] 54) = W at *
  refine wp_region_partsS (fun U => Below W.heap.size W U) [([], 0, true), ([], 1, true), ([], 2, true), ([], 3, true), ([], 5, true), ([], 6, true), ([], 7, true), ([], 8, true), ([], 4, false), ([], 9, false), ([], 10, false), ([], 11, false)] [12] [] (by kernel_rfl) (by kernel_rfl) (Below.refl _ _).drew (partsI_yield ?_)
  simp only [sgLHNaJoinB]
  have hS : Below W.heap.size W W.drew := (Below.refl _ _).drew
  go_wp2_with fail
  first
    | refine ⟨rfl, _, .pointer (some ⟨w.heap.size, 1, none⟩), rfl, Or.inl ⟨by rfl, fun U hU => by go_simp⟩, partsI_yield ?_⟩
    | refine ⟨rfl, .pointer (some ⟨w.heap.size, 1, none⟩), Or.inl ⟨by rfl, fun U hU => by go_simp⟩, partsI_yield ?_⟩
  simp only [Act.put, sgPHNaJoinB]
  simp only [sgLHNaJoinB]
  go_wp2_with fail
  first
    | refine ⟨rfl, _, .string s, rfl, Or.inl ⟨by rfl, fun U hU => by have c9 := (KX.out.below hU KX.out.lt).cell 1; go_simp⟩, partsI_yield ?_⟩
    | refine ⟨rfl, .string s, Or.inl ⟨by rfl, fun U hU => by have c9 := (KX.out.below hU KX.out.lt).cell 1; go_simp⟩, partsI_yield ?_⟩
  simp only [Act.put, sgPHNaJoinB]
  simp only [sgLHNaJoinB]
  go_wp2_with fail
  first
    | refine ⟨rfl, _, .pointer (some ⟨(w.heap.size + 1), 1, none⟩), rfl, Or.inl ⟨by rfl, fun U hU => by go_simp⟩, partsI_yield ?_⟩
    | refine ⟨rfl, .pointer (some ⟨(w.heap.size + 1), 1, none⟩), Or.inl ⟨by rfl, fun U hU => by go_simp⟩, partsI_yield ?_⟩
  simp only [Act.put, sgPHNaJoinB]
  simp only [sgLHNaJoinB]
  go_wp2_with fail
  first
    | refine ⟨rfl, _, .string t, rfl, Or.inl ⟨by rfl, fun U hU => by have c9 := (KY.out.below hU KY.out.lt).cell 1; go_simp⟩, partsI_yield ?_⟩
    | refine ⟨rfl, .string t, Or.inl ⟨by rfl, fun U hU => by have c9 := (KY.out.below hU KY.out.lt).cell 1; go_simp⟩, partsI_yield ?_⟩
  simp only [Act.put, sgPHNaJoinB]
  simp only [sgLHNaJoinB]
  go_wp2_with fail
  first
    | refine ⟨rfl, _, .pointer (some ⟨w.heap.size, 0, none⟩), rfl, Or.inl ⟨by rfl, fun U hU => by go_simp⟩, partsI_yield ?_⟩
    | refine ⟨rfl, .pointer (some ⟨w.heap.size, 0, none⟩), Or.inl ⟨by rfl, fun U hU => by go_simp⟩, partsI_yield ?_⟩
  simp only [Act.put, sgPHNaJoinB]
  simp only [sgLHNaJoinB]
  go_wp2_with fail
  first
    | refine ⟨rfl, _, .int .i64 i, rfl, Or.inl ⟨by rfl, fun U hU => by have c9 := (KX.out.below hU KX.out.lt).cell 0; go_simp⟩, partsI_yield ?_⟩
    | refine ⟨rfl, .int .i64 i, Or.inl ⟨by rfl, fun U hU => by have c9 := (KX.out.below hU KX.out.lt).cell 0; go_simp⟩, partsI_yield ?_⟩
  simp only [Act.put, sgPHNaJoinB]
  simp only [sgLHNaJoinB]
  go_wp2_with fail
  first
    | refine ⟨rfl, _, .pointer (some ⟨(w.heap.size + 1), 0, none⟩), rfl, Or.inl ⟨by rfl, fun U hU => by go_simp⟩, partsI_yield ?_⟩
    | refine ⟨rfl, .pointer (some ⟨(w.heap.size + 1), 0, none⟩), Or.inl ⟨by rfl, fun U hU => by go_simp⟩, partsI_yield ?_⟩
  simp only [Act.put, sgPHNaJoinB]
  simp only [sgLHNaJoinB]
  go_wp2_with fail
  first
    | refine ⟨rfl, _, .int .i64 j, rfl, Or.inl ⟨by rfl, fun U hU => by have c9 := (KY.out.below hU KY.out.lt).cell 0; go_simp⟩, partsI_force ?_⟩
    | refine ⟨rfl, .int .i64 j, Or.inl ⟨by rfl, fun U hU => by have c9 := (KY.out.below hU KY.out.lt).cell 0; go_simp⟩, partsI_force ?_⟩
  simp only [Act.put, sgPHNaJoinB]
  simp only [sgLHNaJoinB]
  go_wp2_with fail
  refine (HC.out _).mono ?_
  rintro e w9 ⟨rfl, hw9⟩
  subst w9
  go_wp2_with fail
  refine ⟨rfl, hS, partsI_force ?_⟩
  simp only [sgLHNaJoinB]
  go_wp2_with fail
  refine (HI.out _).mono ?_
  rintro e w9 ⟨rfl, hw9⟩
  subst w9
  go_wp2_with fail
  refine ⟨rfl, hS, partsI_force ?_⟩
  simp only [sgLHNaJoinB]
  obtain ⟨W1, hW1⟩ : ∃ W1, W1 = (W.alloc (.cells #[.int .i64 c, .int .i64 d] 3)).drew := ⟨_, rfl⟩
  have k1 : Blk W1 W.heap.size 3 #[.int .i64 c, .int .i64 d] := by rw [hW1]; exact (Blk.new W 3 _).drew
  have b1 : Below W.heap.size W W1 := by rw [hW1]; exact ((Below.refl _ W).alloc (Nat.le_refl _) _).drew
  have HO : Hid (Calls Tryz.prog 139 #[.slice (some ⟨W.heap.size, 0, none⟩) 2 2] W1 fun e w' => e = .returned (.int .i64 (orC c d)) ∧ w' = W1) := or_two c d W.heap.size _ (k1.cell 0) (k1.cell 1)
  have HB1 : Hid (Below W.heap.size W W1) := b1
  clear k1 b1 hS
  subst hW1
  go_wp2_with fail
  refine ⟨rfl, HB1.out, partsI_force ?_⟩
  simp only [sgLHNaJoinB]
  go_wp2_with fail
  refine HO.out.mono ?_
  rintro e w9 ⟨rfl, hw9⟩
  subst w9
  go_wp2_with fail
  refine ⟨rfl, HB1.out, partsI_last ?_⟩
  simp only [sgLHNaJoinB]
  go_wp2_with fail
  refine ⟨rfl, ?_⟩
  go_wp2_with fail
  go_ret
  exact ⟨by rw [← HN.out]; rfl, HBW.out.trans (HB1.out.mono HBW.out.size)⟩
end Go.Proofs.YtimjggkdpmgpjaaGreatDoor

namespace Go.Proofs.YtimjggkdpmgpjaaGreatDoor
open Go Go.RowKit Go.Nam
set_option linter.unusedVariables false
set_option linter.unusedSimpArgs false
abbrev Lk := Int × ByteArray
/-- the cells of entries -/
def lkR : List Lk → List Value
  | [] => []
  | x :: l => .int .i64 x.1 :: .string x.2 :: lkR l
theorem lkR_len : ∀ l : List Lk, (lkR l).length = l.length * 2
  | [] => rfl
  | x :: l => by simp [lkR, lkR_len l]; omega
theorem lkR_app : ∀ l m : List Lk, lkR (l ++ m) = lkR l ++ lkR m
  | [], m => rfl
  | x :: l, m => by simp [lkR, lkR_app l m]
theorem lkR_mem : ∀ (l : List Lk) (u : Value), u ∈ lkR l → u.oneCell' = true
  | [], u, h => by simp [lkR] at h
  | x :: l, u, h => by
    simp only [lkR, List.mem_cons] at h
    rcases h with rfl | rfl | h
    · rfl
    · rfl
    · exact lkR_mem l u h
theorem lkR_at : ∀ (l : List Lk) (i : Nat) (x : Lk), l[i]? = some x → (lkR l)[i * 2]? = some (.int .i64 x.1) ∧ (lkR l)[i * 2 + 1]? = some (.string x.2)
  | [], i, x, h => by simp at h
  | y :: l, 0, x, h => by simp at h; subst h; exact ⟨rfl, rfl⟩
  | y :: l, i + 1, x, h => by
    have ih := lkR_at l i x (by simpa using h)
    rw [show (i + 1) * 2 = i * 2 + 1 + 1 from by omega]
    exact ⟨ih.1, ih.2⟩
theorem lkR_take : ∀ (l : List Lk) (k : Nat), lkR (l.take k) = (lkR l).take (k * 2)
  | [], k => by simp [lkR]
  | x :: l, 0 => by simp [lkR]
  | x :: l, k + 1 => by rw [List.take_succ_cons, lkR, lkR, lkR_take l k, show (k + 1) * 2 = k * 2 + 1 + 1 from by omega]; rfl
theorem lkR_drop : ∀ (l : List Lk) (k : Nat), lkR (l.drop k) = (lkR l).drop (k * 2)
  | [], k => by simp [lkR]
  | x :: l, 0 => by simp
  | x :: l, k + 1 => by rw [List.drop_succ_cons, lkR, lkR_drop l k, show (k + 1) * 2 = k * 2 + 1 + 1 from by omega]; rfl
/-- the first n of N, S as a list -/
def liR (N : Nat → Int) (S : Nat → ByteArray) (n : Nat) : List Lk := (List.range n).map fun i => (N i, S i)
theorem liR_len (N : Nat → Int) (S : Nat → ByteArray) (n : Nat) : (liR N S n).length = n := by simp [liR]
theorem liR_get (N : Nat → Int) (S : Nat → ByteArray) (n i : Nat) (h : i < n) : (liR N S n)[i]? = some (N i, S i) := by simp [liR, h]
theorem liR_cells (N : Nat → Int) (S : Nat → ByteArray) : ∀ n, lkR (liR N S n) = lkL N S n
  | 0 => rfl
  | n + 1 => by
    have ih := liR_cells N S n
    unfold liR at ih ⊢
    rw [List.range_succ, List.map_append, lkR_app, ih, lkL]
    rfl
theorem li_of (R : List Lk) : R = liR (fun i => (R.getD i (0, ⟨#[]⟩)).1) (fun i => (R.getD i (0, ⟨#[]⟩)).2) R.length := by
  apply List.ext_getElem?
  intro i
  by_cases h : i < R.length
  · rw [liR_get _ _ _ _ h, List.getElem?_eq_getElem h]
    simp [List.getD, h]
  · rw [List.getElem?_eq_none (by omega), List.getElem?_eq_none (by rw [liR_len]; omega)]
/-- a permutation of places makes the same entries -/
theorem pm_perm {n : Nat} {s : Nat → Nat} (h : Pm 0 n s) : ((List.range n).map s).Perm (List.range n) := by
  have hnd : ((List.range n).map s).Nodup := by
    rw [List.Nodup, List.pairwise_map]
    exact List.Pairwise.imp (fun hne e => hne (h.2.2 _ _ e)) List.nodup_range
  rw [List.perm_ext_iff_of_nodup hnd List.nodup_range]
  have hin : ∀ y, y ∈ (List.range n).map s → y < n := fun y hy => by
    obtain ⟨p, hp, rfl⟩ := List.mem_map.1 hy
    exact (h.2.1 p (Nat.zero_le _) (List.mem_range.1 hp)).2
  intro x
  refine ⟨fun hx => List.mem_range.2 (hin x hx), fun hx => Classical.byContradiction fun hno => ?_⟩
  have hsub : (List.range n).map s ⊆ (List.range n).erase x := fun y hy => (List.mem_erase_of_ne (fun e => hno (by rw [← e]; exact hy))).2 (List.mem_range.2 (hin y hy))
  have hle := hnd.length_le_of_subset hsub
  rw [List.length_erase_of_mem hx] at hle
  have := List.mem_range.1 hx
  simp at hle
  omega
theorem en_perm (N : Nat → Int) (S : Nat → ByteArray) {n : Nat} {s : Nat → Nat} (h : Pm 0 n s) : (liR (fun p => N (s p)) (fun p => S (s p)) n).Perm (liR N S n) := by
  have := (pm_perm h).map fun i => (N i, S i)
  rw [List.map_map] at this
  exact this
/-- sorted, as a list -/
def SoR (R : List Lk) : Prop := R.Pairwise fun a b => ¬ LkL b a
theorem so_soR {N : Nat → Int} {S : Nat → ByteArray} {s : Nat → Nat} {n : Nat} (h : So LkL (EnS N S s) 0 n) : SoR (liR (fun p => N (s p)) (fun p => S (s p)) n) := by
  unfold SoR liR
  rw [List.pairwise_map]
  rw [List.pairwise_iff_getElem]
  intro i j hi hj hij
  simp only [List.getElem_range]
  exact h i j (Nat.zero_le _) hij (by simpa using hj)
theorem soR_eq {R Q : List Lk} (h1 : SoR R) (h2 : SoR Q) (hp : R.Perm Q) : R = Q :=
  hp.eq_of_pairwise (fun a b _ _ k1 k2 => lk_eq k2 k1) h1 h2
theorem lk_irr (x : Lk) : ¬ LkL x x := fun h => lk_A x x h h
/-- one entry put where it belongs -/
theorem soR_put {R : List Lk} {x : Lk} {k : Nat} (h : SoR R) (hk : k ≤ R.length) (hl : k = 0 ∨ ∃ y, R[k - 1]? = some y ∧ ¬ LkL x y) (hr : ∀ j y, k ≤ j → R[j]? = some y → LkL x y) : SoR (R.take k ++ ([x] ++ R.drop k)) := by
  unfold SoR
  rw [List.pairwise_append]
  refine ⟨h.sublist (List.take_sublist _ _), ?_, ?_⟩
  · rw [List.singleton_append, List.pairwise_cons]
    refine ⟨fun y hy => ?_, h.sublist (List.drop_sublist _ _)⟩
    obtain ⟨j, hj, e⟩ := List.getElem_of_mem hy
    rw [List.getElem_drop] at e
    exact lk_A _ _ (hr (k + j) y (by omega) (by rw [← e]; exact List.getElem?_eq_getElem _))
  · intro a ha b hb
    obtain ⟨i, hi, e⟩ := List.getElem_of_mem ha
    rw [List.length_take] at hi
    rw [List.getElem_take] at e
    have hik : i < k := by omega
    rcases hl with h0 | ⟨y, hy, hxy⟩
    · omega
    have hk1 : k - 1 < R.length := (List.getElem?_eq_some_iff.1 hy).1
    have hy2 := (List.getElem?_eq_some_iff.1 hy).2
    have hay : ¬ LkL y a := by
      by_cases c : i = k - 1
      · subst c; rw [← e, hy2]; exact lk_irr _
      · have := (List.pairwise_iff_getElem.1 h) i (k - 1) (by omega) hk1 (by omega)
        rw [hy2, e] at this
        exact this
    rw [List.singleton_append, List.mem_cons] at hb
    rcases hb with rfl | hb
    · exact lk_T _ _ _ hay hxy
    · obtain ⟨j, hj, e2⟩ := List.getElem_of_mem hb
      rw [List.length_drop] at hj
      rw [List.getElem_drop] at e2
      have := (List.pairwise_iff_getElem.1 h) i (k + j) (by omega) (by omega) (by omega)
      rw [e, e2] at this
      exact this
theorem put_perm (R : List Lk) (x : Lk) (k : Nat) : (R.take k ++ ([x] ++ R.drop k)).Perm (R ++ [x]) := by
  have h1 : (R.take k ++ ([x] ++ R.drop k)).Perm (R.take k ++ (R.drop k ++ [x])) := List.Perm.append_left _ (List.perm_append_comm)
  have e : R.take k ++ (R.drop k ++ [x]) = R ++ [x] := by rw [← List.append_assoc, List.take_append_drop]
  rw [e] at h1
  exact h1
/-- entries in the memory from a place on -/
def IsR (w : World) (b o : Nat) (M : List Lk) : Prop := ∀ j u, (lkR M)[j]? = some u → w.cell? ⟨b, o + j, none⟩ = some u
theorem IsR.take {w : World} {b o : Nat} {M : List Lk} (h : IsR w b o M) (k : Nat) : IsR w b o (M.take k) := fun j u hu => by
  rw [lkR_take, List.getElem?_take] at hu
  split at hu
  · exact h j u hu
  · cases hu
theorem IsR.drop {w : World} {b o : Nat} {M : List Lk} (h : IsR w b o M) (k : Nat) : IsR w b (o + k * 2) (M.drop k) := fun j u hu => by
  rw [lkR_drop, List.getElem?_drop] at hu
  rw [Nat.add_assoc]
  exact h _ u hu
theorem IsR.below {w w' : World} {b o B : Nat} {M : List Lk} (h : IsR w b o M) (hb : Below B w w') (hB : b < B) : IsR w' b o M := fun j u hu => (hb.cell (p := ⟨b, o + j, none⟩) hB).trans (h j u hu)
theorem own_isR {w : World} {B e n cap g : Nat} {M : List Lk} (h : w.ownsRow B e 2 (.slice (some ⟨g, 0, none⟩) n cap) n (lkR M)) : IsR w g 0 M := fun j u hu => by
  have h1 := h.1
  have h2 := (List.getElem?_eq_some_iff.1 hu).1
  rw [Nat.zero_add, h.cellAt j (by omega)]
  exact hu
/-- append(own, entries...) -/
theorem wpList_append_lks {P : Program} {ops : Array Oper} {rest : List Oper} {o : Oper} {a : Act} {w : World} {Q : Exit → Act → World → Prop} (hgd : o.guard = none) (s x : Operand) (t : TypeId)
    (ho : o.op = .call { callee := .builtin .append, args := #[s, x], argTypes := #[t, t] }) (B : Nat) (e : TypeId) (i : TypeInfo) (z : Value) (ht : P.underlying t = some (.slice e)) (hi : P.info? e = some i) (hz : i.zero = some z) (hsize : i.size = 2) (hby : i.bytes = 24) (hzs : z.cells.size = 2)
    (v : Value) (A : List Lk) (k : Nat) (hk : k = A.length) (hs : a.eval s = v) (hown : w.ownsRow B e 2 v k (lkR A)) (b of m c : Nat) (M : List Lk) (hm : m = M.length) (hx : a.eval x = .slice (some ⟨b, of, none⟩) m c) (hA : IsR w b of M) (hn : (A.length + M.length) * 24 ≤ 140737488355328) (hbase : B ≤ w.heap.size)
    (h : ∀ v' w', w'.ownsRow B e 2 v' (k + m) (lkR (A ++ M)) → Below B w w' → w.grownBy w' v.ownBlock → wpList P ops Q rest (a.put o.dst v') w') : wpList P ops Q (o :: rest) a w := by
  have hv := hown.lt
  refine wpList_append_own _ hgd s x t ho B e i z 2 24 ht hi hz hsize hby hzs (by decide) v k (lkR A) hs hown ⟨b, of, none⟩ m c (lkR M) hx (by rw [lkR_len, hm]) (fun j u hu => ?_) (lkR_mem M) (by unfold maxLen; omega) (by omega) hbase fun v' w' h1 h2 _ => ?_
  · rw [Addr.add_mid]; exact hA j u hu
  · rw [← lkR_app] at h1
    exact h v' w' h1 ((Below.refl _ _).grown h2 hbase (fun k hk => (hv k hk).1)) h2
end Go.Proofs.YtimjggkdpmgpjaaGreatDoor

namespace Go.Proofs.YtimjggkdpmgpjaaGreatDoor
open Go.ChangeShapes Go.WideShapes Go.ChangeAt Go.RowKit Go.Joins
set_option linter.unusedVariables false
set_option linter.unusedSimpArgs false
theorem lkL_mem (N : Nat → Int) (S : Nat → ByteArray) : ∀ n u, u ∈ lkL N S n → u.oneCell' = true
  | 0, u, h => by simp [lkL] at h
  | n + 1, u, h => by
    rw [lkL, List.mem_append] at h
    rcases h with h | h
    · exact lkL_mem N S n u h
    · simp at h
      rcases h with rfl | rfl <;> rfl
theorem lkL_get (N : Nat → Int) (S : Nat → ByteArray) : ∀ n j u, (lkL N S n)[j]? = some u → ∃ i, i < n ∧ ((j = i * 2 ∧ u = .int .i64 (N i)) ∨ (j = i * 2 + 1 ∧ u = .string (S i)))
  | 0, j, u, h => by simp [lkL] at h
  | n + 1, j, u, h => by
    have hl := lkL_len N S n
    rw [lkL] at h
    by_cases hj : j < n * 2
    · rw [List.getElem?_append_left (by omega)] at h
      obtain ⟨i, hi, hh⟩ := lkL_get N S n j u h
      exact ⟨i, by omega, hh⟩
    · rw [List.getElem?_append_right (by omega), hl] at h
      have hlt : j - n * 2 < 2 := by have := (List.getElem?_eq_some_iff.1 h).1; simpa using this
      by_cases e : j = n * 2
      · rw [e, Nat.sub_self] at h
        simp at h
        exact ⟨n, by omega, Or.inl ⟨e, h.symm⟩⟩
      · have e2 : j = n * 2 + 1 := by omega
        rw [e2, show n * 2 + 1 - n * 2 = 1 from by omega] at h
        simp at h
        exact ⟨n, by omega, Or.inr ⟨e2, h.symm⟩⟩
theorem wpList_append_links {P : Program} {ops : Array Oper} {rest : List Oper} {o : Oper} {a : Act} {w : World} {Q : Exit → Act → World → Prop} (hgd : o.guard = none) (s x : Operand) (t : TypeId)
    (ho : o.op = .call { callee := .builtin .append, args := #[s, x], argTypes := #[t, t] }) (B : Nat) (e : TypeId) (i : TypeInfo) (z : Value) (ht : P.underlying t = some (.slice e)) (hi : P.info? e = some i) (hz : i.zero = some z) (hsize : i.size = 2) (hby : i.bytes = 24) (hzs : z.cells.size = 2)
    (v : Value) (hs : a.eval s = v) (hown : w.ownsRow B e 2 v 0 []) (a1 : Option Addr) (n c : Nat) (N : Nat → Int) (S : Nat → ByteArray) (hx : a.eval x = .slice a1 n c) (hA : IsLkC w a1 n N S) (hN : a1 = none → n = 0 ∧ c = 0) (hn : n * 24 ≤ 140737488355328) (hbase : B ≤ w.heap.size)
    (h : ∀ v' w', w'.ownsRow B e 2 v' n (lkL N S n) → Below B w w' → wpList P ops Q rest (a.put o.dst v') w') : wpList P ops Q (o :: rest) a w := by
  cases a1 with
  | none =>
    obtain ⟨rfl, rfl⟩ := hN rfl
    exact wpList_append_own_none hgd s x t ho B e i 2 ht hi v 0 [] hs hown hx (h v w hown (Below.refl _ _))
  | some ad =>
    have hv := hown.lt
    refine wpList_append_own _ hgd s x t ho B e i z 2 24 ht hi hz hsize hby hzs (by decide) v 0 [] hs hown ad n c (lkL N S n) hx (lkL_len N S n) (fun j u hu => ?_) (lkL_mem N S n) (by unfold maxLen; omega) (by omega) hbase fun v' w' h1 h2 _ => ?_
    · obtain ⟨k, hk, hh⟩ := lkL_get N S n j u hu
      obtain ⟨b, o2, e1, _, c0, c1⟩ := hA k hk
      injection e1 with e2
      subst e2
      rcases hh with ⟨rfl, rfl⟩ | ⟨rfl, rfl⟩
      · rw [Addr.add_mid]; exact c0
      · rw [Addr.add_mid, ← Nat.add_assoc]; exact c1
    · rw [List.nil_append, Nat.zero_add] at h1
      exact h v' w' h1 ((Below.refl _ _).grown h2 hbase (fun k hk => (hv k hk).1))
end Go.Proofs.YtimjggkdpmgpjaaGreatDoor
