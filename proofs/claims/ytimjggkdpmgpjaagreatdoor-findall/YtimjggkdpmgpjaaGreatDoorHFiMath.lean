/- A tree of names in plain numbers: where names lead, and what is wrong. No program in it. -/
import Derived.Test.YtimjggkdpmgpjaaGreatDoorHInsResize
import Derived.Handy
import Derived.Test.YtimjggkdpmgpjaaGreatDoorHInsSetC
import Derived.Test.YtimjggkdpmgpjaaGreatDoorHNaBack
import Derived.Test.YtimjggkdpmgpjaaGreatDoorHCollKit
import Derived.Test.YtimjggkdpmgpjaaGreatDoorHMath
import Derived.Test.YtimjggkdpmgpjaaGreatDoorHIoChk
import Derived.Test.YtimjggkdpmgpjaaGreatDoorHOrders

namespace Go.Proofs.YtimjggkdpmgpjaaGreatDoor
theorem sgLHFiMath : (∀ (α : Type) (a : α) (l r : List α), (a :: l) ++ r = a :: (l ++ r)) ∧ (∀ (α : Type) (l : List α), [] ++ l = l) ∧ (∀ (α : Type) (l : List α), l ++ [] = l) ∧ (∀ (α β : Type) (f : α → Option β) (a : α) (l : List α), (a :: l).filterMap f = match f a with | none => l.filterMap f | some b => b :: l.filterMap f) ∧ (∀ (α β : Type) (f : α → Option β), [].filterMap f = []) ∧ (∀ (α : Type) (l : List α) (i : Nat), l.toArray[i]? = l[i]?) ∧ (∀ (α : Type) (a : α) (l : List α), (a :: l)[0]? = some a) ∧ (∀ (α : Type) (a : α) (l : List α) (i : Nat), (a :: l)[i + 1]? = l[i]?) :=
  ⟨fun _ _ _ _ => List.cons_append, fun _ _ => List.nil_append _, fun _ _ => List.append_nil _, fun _ _ _ _ _ => List.filterMap_cons, fun _ _ _ => List.filterMap_nil, fun _ _ _ => List.getElem?_toArray, fun _ _ _ => List.getElem?_cons_zero, fun _ _ _ _ => List.getElem?_cons_succ⟩
theorem sgPHFiMath : (∀ (α : Type) (l : List α) (i : Nat) (a : α), l.toArray.setIfInBounds i a = (l.set i a).toArray) ∧ (∀ (α : Type) (a b : α) (l : List α), (a :: l).set 0 b = b :: l) ∧ (∀ (α : Type) (a b : α) (l : List α) (i : Nat), (a :: l).set (i + 1) b = a :: l.set i b) :=
  ⟨fun _ _ _ _ => List.setIfInBounds_toArray _ _ _, fun _ _ _ _ => List.set_cons_zero, fun _ _ _ _ _ => List.set_cons_succ⟩
end Go.Proofs.YtimjggkdpmgpjaaGreatDoor
namespace Go.Proofs.YtimjggkdpmgpjaaGreatDoor
open Go Go.RowKit
set_option linter.unusedSimpArgs false
set_option linter.unusedVariables false
/-- What Resize makes of a number's inode. -/
def rsH (y : Hd) (o sz : Nat) : Hd := hdZ (if 0 < sz % 256 ∧ sz < o then hdS y else y) (sz : Int)
section
variable {w w' : World} {x mf ml mc : Nat} {cp : Option Addr} {top : Int} {H : Nat → Hd} {D : Nat → Nat → Nat → Nat}
set_option maxRecDepth 100000 in
set_option maxHeartbeats 8000000 in
theorem IM.resize1 (h : IM w x mf ml mc cp top H D) (n b zb sb xb : Nat) (y : Hd) (o sz st : Nat) (hy : y.n = (n : Int)) (hl : y.left = 0) (ho : y.s = (o : Int)) (hk : y.k = 1 ∨ (y.k = 2 ∧ sz % 64 = 0)) (hob : o ≤ 1048576) (hsb : sz ≤ 1048576) (hZ : ∀ q i, i < 256 → o ≤ 256 * q + i → D n q i = 0) (hB : Blk w b 140 (hdC y)) (hX : Blk w zb 3 #[.int .i64 (sz : Int)] ∧ Blk w sb 38 #[.int .u64 ((st : Nat) : Int)] ∧ Blk w xb 23 #[.pointer (some ⟨x, 0, none⟩)]) (hb : b ≠ x ∧ b ≠ mf ∧ b ≠ ml ∧ b ≠ mc) (hbx : zb ≠ b ∧ xb ≠ b) : Calls Tryz.prog 86 #[.pointer (some ⟨b, 0, none⟩), .pointer (some ⟨zb, 0, none⟩), .pointer (some ⟨sb, 0, none⟩), .pointer (some ⟨xb, 0, none⟩)] w fun e w' => e = .returned (.int .i64 0) ∧ IM w' x mf ml mc cp top H (rsD D n sz) ∧ Blk w' b 140 (hdC (rsH (hdT y st) o sz)) ∧ Turns (fun z => z = ml ∨ z = b) w w' := by
  have c39 := hd_c39 hB
  have c42 := hd_c42 hB
  have f42 : w.frozen? ⟨b, 42, none⟩ = false := hB.frozen 42
  have z0 : w.cell? ⟨zb, 0, none⟩ = some (.int .i64 (sz : Int)) := (hX.1.cell 0).trans rfl
  have s0 : w.cell? ⟨sb, 0, none⟩ = some (.int .u64 ((st : Nat) : Int)) := (hX.2.1.cell 0).trans rfl
  have hB1 := hd_putT hB st
  have z1 : (w.setCell ⟨b, 42, none⟩ (.int .u64 ((st : Nat) : Int))).cell? ⟨zb, 0, none⟩ = some (.int .i64 (sz : Int)) := ((hX.1.put_other 42 _ hbx.1).cell 0).trans rfl
  have x1 : (w.setCell ⟨b, 42, none⟩ (.int .u64 ((st : Nat) : Int))).cell? ⟨xb, 0, none⟩ = some (.pointer (some ⟨x, 0, none⟩)) := ((hX.2.2.put_other 42 _ hbx.2).cell 0).trans rfl
  have HRS : Calls Tryz.prog 87 #[.pointer (some ⟨x, 0, none⟩), .pointer (some ⟨b, 0, none⟩), .int .i64 (sz : Int)] (w.setCell ⟨b, 42, none⟩ (.int .u64 ((st : Nat) : Int))) fun e w' => e = .returned (.int .i64 0) ∧ IM w' x mf ml mc cp top H (rsD D n sz) ∧ Blk w' b 140 (hdC (rsH (hdT y st) o sz)) ∧ Turns (fun z => z = ml ∨ z = b) (w.setCell ⟨b, 42, none⟩ (.int .u64 ((st : Nat) : Int))) w' := (h.other b 42 (.int .u64 ((st : Nat) : Int)) hb).resize n b (hdT y st) o sz hy hl ho hob hsb hZ hB1 hb
  have HT1 : Hid (Turns (fun z => z = ml ∨ z = b) w (w.setCell ⟨b, 42, none⟩ (.int .u64 ((st : Nat) : Int)))) := Turns.cell w b 42 _ (.inr rfl)
  have r1 : (sz : Int).tmod 64 = ((sz % 64 : Nat) : Int) := rfl
  clear h hy hl ho hob hsb hZ hB hX hb hbx hB1
  go_enter Tryz.func86, Tryz.ntmps86
  generalize y.k = kk at *
  rcases hk with rfl | ⟨rfl, hm⟩
  · skip
    go_wp2_with fail
    generalize (w.setCell ⟨b, 42, none⟩ (.int .u64 ((st : Nat) : Int))) = w1 at *
    refine HRS.mono ?_
    rintro e w2 ⟨rfl, hI2, hB2, ht2⟩
    have HE : Hid (IM w2 x mf ml mc cp top H (rsD D n sz) ∧ Blk w2 b 140 (hdC (rsH (hdT y st) o sz)) ∧ Turns (fun z => z = ml ∨ z = b) w w2) := ⟨hI2, hB2, HT1.out.tr ht2⟩
    clear hI2 hB2 ht2 HRS
    go_wp2_with fail
    go_ret
    exact ⟨rfl, HE.out.1, HE.out.2.1, HE.out.2.2⟩
  · have r2 : (sz : Int) % 64 = 0 := by omega
    go_wp2_with fail
    generalize (w.setCell ⟨b, 42, none⟩ (.int .u64 ((st : Nat) : Int))) = w1 at *
    refine HRS.mono ?_
    rintro e w2 ⟨rfl, hI2, hB2, ht2⟩
    have HE : Hid (IM w2 x mf ml mc cp top H (rsD D n sz) ∧ Blk w2 b 140 (hdC (rsH (hdT y st) o sz)) ∧ Turns (fun z => z = ml ∨ z = b) w w2) := ⟨hI2, hB2, HT1.out.tr ht2⟩
    clear hI2 hB2 ht2 HRS
    go_wp2_with fail
    go_ret
    exact ⟨rfl, HE.out.1, HE.out.2.1, HE.out.2.2⟩
set_option maxRecDepth 100000 in
set_option maxHeartbeats 8000000 in
theorem IM.resizeM (h : IM w x mf ml mc cp top H D) (n : Nat) (h1 : 1 ≤ n) (h2 : n ≤ 4096) (o sz st : Nat) (hn : (H n).n = (n : Int)) (hl : (H n).left = 0) (ho : (H n).s = (o : Int)) (hk : (H n).k = 1 ∨ ((H n).k = 2 ∧ sz % 64 = 0)) (hob : o ≤ 1048576) (hsb : sz ≤ 1048576) (hZ : ∀ q i, i < 256 → o ≤ 256 * q + i → D n q i = 0) : Calls Tryz.prog 52 #[.pointer (some ⟨x, 0, none⟩), .int .i64 (n : Int), .int .i64 (sz : Int), .int .u64 ((st : Nat) : Int)] w fun e w' => e = .returned (.int .i64 0) ∧ IM w' x mf ml mc cp top (hU H n (rsH (hdT (H n) st) o sz)) (rsD D n sz) ∧ Turns (fun z => z = ml ∨ z = mf) w w' := by
  have hb1 : Below w.heap.size w (((w.alloc (.cells #[.pointer (some ⟨x, 0, none⟩)] 23)).alloc (.cells #[.int .i64 (sz : Int)] 3)).alloc (.cells #[.int .u64 ((st : Nat) : Int)] 38)) := (((Below.refl _ _).alloc (Nat.le_refl _) _).alloc (by simp) _).alloc (by simp; omega) _
  have k0 : Blk (((w.alloc (.cells #[.pointer (some ⟨x, 0, none⟩)] 23)).alloc (.cells #[.int .i64 (sz : Int)] 3)).alloc (.cells #[.int .u64 ((st : Nat) : Int)] 38)) w.heap.size 23 #[.pointer (some ⟨x, 0, none⟩)] := ((Blk.new _ _ _).alloc _).alloc _
  have k1 : Blk (((w.alloc (.cells #[.pointer (some ⟨x, 0, none⟩)] 23)).alloc (.cells #[.int .i64 (sz : Int)] 3)).alloc (.cells #[.int .u64 ((st : Nat) : Int)] 38)) (w.heap.size + 1) 3 #[.int .i64 (sz : Int)] := (Blk.new1 _ _ _ _).alloc _
  have k2 : Blk (((w.alloc (.cells #[.pointer (some ⟨x, 0, none⟩)] 23)).alloc (.cells #[.int .i64 (sz : Int)] 3)).alloc (.cells #[.int .u64 ((st : Nat) : Int)] 38)) (w.heap.size + 1 + 1) 38 #[.int .u64 ((st : Nat) : Int)] := by
    have := Blk.new ((w.alloc (.cells #[.pointer (some ⟨x, 0, none⟩)] 23)).alloc (.cells #[.int .i64 (sz : Int)] 3)) 38 #[.int .u64 ((st : Nat) : Int)]
    rw [show ((w.alloc (.cells #[.pointer (some ⟨x, 0, none⟩)] 23)).alloc (.cells #[.int .i64 (sz : Int)] 3)).heap.size = w.heap.size + 1 + 1 by simp] at this
    exact this
  have hI1 := h.below hb1
  have hkk : (H n).k ≠ 0 := by omega
  have HC := hI1.changeResize n h1 h2 hkk (.pointer (some ⟨w.heap.size + 1, 0, none⟩)) (.pointer (some ⟨w.heap.size + 1 + 1, 0, none⟩)) (.pointer (some ⟨w.heap.size, 0, none⟩)) (rsH (hdT (H n) st) o sz) (rsD D n sz) fun V b hV hI hB hge => hI.resize1 n b (w.heap.size + 1) (w.heap.size + 1 + 1) w.heap.size (H n) o sz st hn hl ho hk hob hsb hZ hB ⟨k1.below hV k1.lt, k2.below hV k2.lt, k0.below hV k0.lt⟩ (hI1.apart b hge) ⟨by have := k1.lt; omega, by have := k0.lt; omega⟩
  have HWR := wrong_ok x (n : Int) (by omega) (by omega) (((w.alloc (.cells #[.pointer (some ⟨x, 0, none⟩)] 23)).alloc (.cells #[.int .i64 (sz : Int)] 3)).alloc (.cells #[.int .u64 ((st : Nat) : Int)] 38))
  have HLV : Hid (∀ V : World, Calls Tryz.prog 84 #[.int .i64 (sz : Int)] V fun e w' => e = .returned (.tuple #[.int .i64 (((sz : Int) + 255) / 256), .int .i64 0]) ∧ w' = V) := fun V => by
    have := leavesN_any (sz : Int) ⟨by omega, by omega⟩ V
    rw [if_pos ⟨by omega, by omega⟩] at this
    exact this
  have x0 : (((w.alloc (.cells #[.pointer (some ⟨x, 0, none⟩)] 23)).alloc (.cells #[.int .i64 (sz : Int)] 3)).alloc (.cells #[.int .u64 ((st : Nat) : Int)] 38)).cell? ⟨w.heap.size, 0, none⟩ = some (.pointer (some ⟨x, 0, none⟩)) := (k0.cell 0).trans rfl
  have z0 : (((w.alloc (.cells #[.pointer (some ⟨x, 0, none⟩)] 23)).alloc (.cells #[.int .i64 (sz : Int)] 3)).alloc (.cells #[.int .u64 ((st : Nat) : Int)] 38)).cell? ⟨w.heap.size + 1, 0, none⟩ = some (.int .i64 (sz : Int)) := (k1.cell 0).trans rfl
  have HB1 : Hid (Below w.heap.size w (((w.alloc (.cells #[.pointer (some ⟨x, 0, none⟩)] 23)).alloc (.cells #[.int .i64 (sz : Int)] 3)).alloc (.cells #[.int .u64 ((st : Nat) : Int)] 38))) := hb1
  clear h hb1 k0 k1 k2 hI1 hkk h1 h2 hn hl ho hk hob hsb hZ
  go_enter Tryz.func52, Tryz.ntmps52
  go_wp2_with fail
  generalize (((w.alloc (.cells #[.pointer (some ⟨x, 0, none⟩)] 23)).alloc (.cells #[.int .i64 (sz : Int)] 3)).alloc (.cells #[.int .u64 ((st : Nat) : Int)] 38)) = w1 at *
  refine HWR.mono ?_
  rintro e w2 ⟨rfl, hw2⟩
  subst w2
  go_wp2_with fail
  refine (HLV.out w1).mono ?_
  rintro e w2 ⟨rfl, hw2⟩
  subst w2
  go_wp2_with fail
  refine HC.mono ?_
  rintro e w3 ⟨rfl, hI3, ht3⟩
  have HE : Hid (IM w3 x mf ml mc cp top (hU H n (rsH (hdT (H n) st) o sz)) (rsD D n sz) ∧ Turns (fun z => z = ml ∨ z = mf) w w3) := ⟨hI3, (Turns.bel HB1.out).tr ht3⟩
  clear hI3 ht3 HC HB1
  go_wp2_with fail
  go_ret
  exact ⟨rfl, HE.out.1, HE.out.2⟩
end
end Go.Proofs.YtimjggkdpmgpjaaGreatDoor

namespace Go.Proofs.YtimjggkdpmgpjaaGreatDoor
open Go Go.RowKit
set_option linter.unusedSimpArgs false
set_option linter.unusedVariables false
/-- entries from a leaf on -/
def shN (N : Nat → Int) (q : Nat) : Nat → Int := fun p => N (4 * q + p)
def shS (S : Nat → ByteArray) (q : Nat) : Nat → ByteArray := fun p => S (4 * q + p)
/-- how many entries a leaf has -/
def inLf (k q : Nat) : Nat := min 4 (k - 4 * q)
/-- the bytes of a directory of k entries -/
def DB (D : Nat → Nat → Nat → Nat) (n k : Nat) (N : Nat → Int) (S : Nat → ByteArray) : Prop := ∀ q i, i < 256 → D n q i = leF (shN N q) (shS S q) (inLf k q) i
/-- the inode n is a directory of k entries, with a stamp -/
structure Di (H : Nat → Hd) (D : Nat → Nat → Nat → Nat) (n k st : Nat) (N : Nat → Int) (S : Nat → ByteArray) : Prop where
  n1 : 1 ≤ n
  n2 : n ≤ 4096
  kd : (H n).k = 2
  no : (H n).n = (n : Int)
  s : (H n).s = ((64 * k : Nat) : Int)
  t : (H n).t = st
  left : (H n).left = 0
  le : k ≤ 16384
  ok : ∀ p, p < k → encE (N p) (S p) = 0
  bs : DB D n k N S
theorem leF_congr {N N' : Nat → Int} {S S' : Nat → ByteArray} {m : Nat} (h : ∀ p, p < m → N p = N' p ∧ S p = S' p) : leF N S m = leF N' S' m := by
  induction m with
  | zero => rfl
  | succ m ih =>
    show putAt (leF N S m) (m * 64) 64 (tbyte (encT (N m) (S m))) = putAt (leF N' S' m) (m * 64) 64 (tbyte (encT (N' m) (S' m)))
    rw [ih fun p hp => h p (by omega), (h m (by omega)).1, (h m (by omega)).2]
theorem leE_all {N : Nat → Int} {S : Nat → ByteArray} {m : Nat} (h : ∀ p, p < m → encE (N p) (S p) = 0) : leE N S m = 0 := by
  induction m with
  | zero => rfl
  | succ m ih =>
    show (if leE N S m ≠ 0 then leE N S m else encE (N m) (S m)) = 0
    rw [ih fun p hp => h p (by omega), if_neg (by simp), h m (by omega)]
theorem lkL_same {N N' : Nat → Int} {S S' : Nat → ByteArray} {m : Nat} (h : ∀ p, p < m → N p = N' p ∧ S p = S' p) : lkL N S m = lkL N' S' m := by
  induction m with
  | zero => rfl
  | succ m ih =>
    show lkL N S m ++ [.int .i64 (N m), .string (S m)] = lkL N' S' m ++ [.int .i64 (N' m), .string (S' m)]
    rw [ih fun p hp => h p (by omega), (h m (by omega)).1, (h m (by omega)).2]
/-- one entry another one -/
def upN (N : Nat → Int) (k : Nat) (i : Int) : Nat → Int := fun p => if p = k then i else N p
def upS (S : Nat → ByteArray) (k : Nat) (s : ByteArray) : Nat → ByteArray := fun p => if p = k then s else S p
section
variable {H H' : Nat → Hd} {D D' : Nat → Nat → Nat → Nat} {n k st : Nat} {N : Nat → Int} {S : Nat → ByteArray}
theorem Di.same (h : Di H D n k st N S) (hH : H' n = H n) (hD : D' n = D n) : Di H' D' n k st N S := ⟨h.n1, h.n2, by rw [hH, h.kd], by rw [hH, h.no], by rw [hH, h.s], by rw [hH, h.t], by rw [hH, h.left], h.le, h.ok, fun q i hi => by
  rw [hD]
  exact h.bs q i hi⟩
theorem Di.congr {N' : Nat → Int} {S' : Nat → ByteArray} (h : Di H D n k st N S) (hN : ∀ p, p < k → N p = N' p ∧ S p = S' p) : Di H D n k st N' S' := ⟨h.n1, h.n2, h.kd, h.no, h.s, h.t, h.left, h.le, fun p hp => by
  rw [← (hN p hp).1, ← (hN p hp).2]
  exact h.ok p hp, fun q i hi => by
  rw [h.bs q i hi]
  refine congrFun (leF_congr fun p hp => ?_) i
  unfold inLf at hp
  exact hN (4 * q + p) (by omega)⟩
theorem Di.four (h : Di H D n k st N S) (q : Nat) : leE (shN N q) (shS S q) (inLf k q) = 0 := leE_all fun p hp => by
  unfold inLf at hp
  exact h.ok (4 * q + p) (by omega)
theorem Di.leaf (h : Di H D n k st N S) (q : Nat) : va 256 (iv .u8 (D n q)) = va 256 (iv .u8 (leF (shN N q) (shS S q) (inLf k q))) := va_congr fun i hi => by
  unfold iv
  rw [h.bs q i hi]
theorem Di.zero (h : Di H D n k st N S) (q i : Nat) (hi : i < 256) (hz : 64 * k ≤ 256 * q + i) : D n q i = 0 := by
  rw [h.bs q i hi]
  refine leF_out _ _ _ _ ?_
  unfold inLf
  omega
/-- what was laid over one leaf -/
theorem upF_le {N : Nat → Int} {S : Nat → ByteArray} {m z i : Nat} (hz : m * 64 ≤ z) : upF (leF N S m) z i = leF N S m i := by
  unfold upF
  by_cases c : i < z
  · rw [if_pos c]
  · rw [if_neg c, leF_out _ _ _ _ (by omega)]
theorem hUat (H : Nat → Hd) (n : Nat) (y : Hd) : hU H n y n = y := by
  unfold hU
  rw [if_pos rfl]
theorem hUnot (H : Nat → Hd) (n m : Nat) (y : Hd) (h : m ≠ n) : hU H n y m = H m := by
  unfold hU
  rw [if_neg h]
theorem dUnot (D : Nat → Nat → Nat → Nat) (n m p : Nat) (f : Nat → Nat) (h : m ≠ n) : dU D n p f m = D m := by
  funext q
  unfold dU
  rw [if_neg (fun c => h c.1)]
theorem rsDnot (D : Nat → Nat → Nat → Nat) (n m z : Nat) (h : m ≠ n) : rsD D n z m = D m := by
  funext q i
  unfold rsD
  rw [if_neg h]
/-- a resized directory's inode, but for its bytes -/
theorem rsH_parts (y : Hd) (s' o z : Nat) : (rsH (hdT y s') o z).k = y.k ∧ (rsH (hdT y s') o z).n = y.n ∧ (rsH (hdT y s') o z).s = (z : Int) ∧ (rsH (hdT y s') o z).t = s' ∧ (rsH (hdT y s') o z).left = y.left := by
  unfold rsH
  split <;> exact ⟨rfl, rfl, rfl, rfl, rfl⟩
/-- an entry more -/
theorem Di.add (h : Di H D n k st N S) (hk : k < 16384) (i : Int) (s : ByteArray) (hi : encE i s = 0) (s1 s2 o : Nat) (y : Hd) (hy : y = rsH (hdT (H n) s1) o (64 * (k + 1))) :
    Di (hU (hU H n y) n (hdT (hdS y) s2)) (dU (rsD D n (64 * (k + 1))) n (k / 4) (upF (leF (shN (upN N k i) (k / 4)) (shS (upS S k s) (k / 4)) (k % 4 + 1)) (64 * (k + 1) - k / 4 * 256))) n (k + 1) s2 (upN N k i) (upS S k s) := by
  obtain ⟨e1, e2, e3, e4, e5⟩ := rsH_parts (H n) s1 o (64 * (k + 1))
  rw [← hy] at e1 e2 e3 e4 e5
  have e : hU (hU H n y) n (hdT (hdS y) s2) n = hdT (hdS y) s2 := hUat _ _ _
  refine ⟨h.n1, h.n2, ?_, ?_, ?_, ?_, ?_, by omega, fun p hp => ?_, fun q j hj => ?_⟩
  · rw [e]; exact e1.trans h.kd
  · rw [e]; exact e2.trans h.no
  · rw [e]; exact e3
  · rw [e]; rfl
  · rw [e]; exact e5.trans h.left
  · unfold upN upS
    by_cases c : p = k
    · rw [if_pos c, if_pos c]; exact hi
    · rw [if_neg c, if_neg c]; exact h.ok p (by omega)
  · unfold dU
    by_cases c : q = k / 4
    · rw [if_pos ⟨rfl, c⟩, upF_le (by omega)]
      subst c
      rw [show inLf (k + 1) (k / 4) = k % 4 + 1 by unfold inLf; omega]
    · rw [if_neg (fun c2 => c c2.2)]
      unfold rsD
      rw [if_pos rfl, h.bs q j hj]
      by_cases c3 : 4 * q < k
      · rw [if_pos (by omega), show inLf (k + 1) q = inLf k q by unfold inLf; omega]
        refine congrFun (leF_congr fun p hp => ?_) j
        unfold inLf at hp
        unfold shN shS upN upS
        rw [if_neg (by omega), if_neg (by omega)]
        exact ⟨rfl, rfl⟩
      · rw [show inLf (k + 1) q = 0 by unfold inLf; omega, show inLf k q = 0 by unfold inLf; omega]
        split <;> rfl
/-- an entry's place another one's -/
theorem Di.put (h : Di H D n k st N S) (a : Nat) (ha : a < k) (i : Int) (s : ByteArray) (hi : encE i s = 0) (s1 : Nat) :
    Di (hU H n (hdT (hdS (H n)) s1)) (dU D n (a / 4) (upF (leF (shN (upN N a i) (a / 4)) (shS (upS S a s) (a / 4)) (inLf k (a / 4))) (64 * k - a / 4 * 256))) n k s1 (upN N a i) (upS S a s) := by
  have e : hU H n (hdT (hdS (H n)) s1) n = hdT (hdS (H n)) s1 := hUat _ _ _
  refine ⟨h.n1, h.n2, ?_, ?_, ?_, ?_, ?_, h.le, fun p hp => ?_, fun q j hj => ?_⟩
  · rw [e]; exact h.kd
  · rw [e]; exact h.no
  · rw [e]; exact h.s
  · rw [e]; rfl
  · rw [e]; exact h.left
  · unfold upN upS
    by_cases c : p = a
    · rw [if_pos c, if_pos c]; exact hi
    · rw [if_neg c, if_neg c]; exact h.ok p (by omega)
  · unfold dU
    by_cases c : q = a / 4
    · rw [if_pos ⟨rfl, c⟩, upF_le (by unfold inLf; omega)]
      subst c
      rfl
    · rw [if_neg (fun c2 => c c2.2), h.bs q j hj]
      refine congrFun (leF_congr fun p hp => ?_) j
      unfold inLf at hp
      unfold shN shS upN upS
      rw [if_neg (by omega), if_neg (by omega)]
      exact ⟨rfl, rfl⟩
end
end Go.Proofs.YtimjggkdpmgpjaaGreatDoor

namespace Go.Proofs.YtimjggkdpmgpjaaGreatDoor
open Go Go.RowKit
set_option linter.unusedSimpArgs false
set_option linter.unusedVariables false
section
variable {w : World} {x mf ml mc : Nat} {cp : Option Addr} {top : Int} {H : Nat → Hd} {D : Nat → Nat → Nat → Nat} {n k st : Nat} {N : Nat → Int} {S : Nat → ByteArray}
theorem IM.getD (h : IM w x mf ml mc cp top H D) (hd : Di H D n k st N S) : Calls Tryz.prog 34 #[.pointer (some ⟨x, 0, none⟩), .int .i64 (n : Int)] w fun e w' => e = .returned (.tuple #[.agg (nfC (n : Int) 2 (H n).l ((64 * k : Nat) : Int) st), .int .i64 0]) ∧ Below w.heap.size w w' := by
  have := h.get n hd.n1 hd.n2 (by rw [hd.kd]; decide)
  rw [hd.no, hd.kd, hd.s, hd.t] at this
  exact this
theorem IM.dirD (h : IM w x mf ml mc cp top H D) (hd : Di H D n k st N S) : Calls Tryz.prog 48 #[.pointer (some ⟨x, 0, none⟩), .int .i64 (n : Int)] w fun e w' => e = .returned (.tuple #[.agg (nfC (n : Int) 2 (H n).l ((64 * k : Nat) : Int) st), .int .i64 0]) ∧ Below w.heap.size w w' :=
  directory_ok (n : Int) (H n).l ((64 * k : Nat) : Int) st fun V hV => (h.below hV).getD hd
theorem IM.leafD (h : IM w x mf ml mc cp top H D) (hd : Di H D n k st N S) (q : Nat) (hq : q < 4096) : Calls Tryz.prog 107 #[.pointer (some ⟨x, 0, none⟩), .int .i64 (n : Int), .int .i64 (q : Int)] w fun e w' => e = .returned (.tuple #[.agg (va 256 (iv .u8 (leF (shN N q) (shS S q) (inLf k q)))), .int .i64 0]) ∧ Below w.heap.size w w' := by
  have := h.leafM n q hd.n1 hd.n2 (by rw [hd.kd]; decide) hd.no hd.left hq
  rw [hd.leaf q] at this
  exact this
/-- FromLeaf of entries that may be -/
theorem fromD (N : Nat → Int) (S : Nat → ByteArray) (m : Nat) (hm : m ≤ 4) (hE : leE N S m = 0) (w : World) : Calls Tryz.prog 108 #[.agg (va 256 (iv .u8 (leF N S m))), .int .i64 (m : Int)] w fun e w' => ∃ v, e = .returned (.tuple #[v, .int .i64 0]) ∧ w'.ownsRow w.heap.size 54 2 v m (lkL N S m) ∧ Below w.heap.size w w' := by
  refine (fromLeaf_any (leF N S m) (leF_lt N S m) m hm w).mono ?_
  rintro e w' ⟨h | ⟨_, v, rfl, hv⟩, hb⟩
  · exact absurd (flOk_back N S m hm hE) h.1
  · refine ⟨v, rfl, ?_, hb⟩
    rw [lkL_same (N' := N) (S' := S) fun p hp => plI_back N S m hm hE p hp] at hv
    exact hv
set_option maxRecDepth 100000 in
set_option maxHeartbeats 4000000 in
theorem IM.entries (h : IM w x mf ml mc cp top H D) (hd : Di H D n k st N S) (l : Int) (q : Nat) (hq : 4 * q < k) : Calls Tryz.prog 80 #[.pointer (some ⟨x, 0, none⟩), .agg (nfC (n : Int) 2 l ((64 * k : Nat) : Int) st), .int .i64 (q : Int)] w fun e w' => ∃ v, e = .returned (.tuple #[v, .int .i64 0]) ∧ w'.ownsRow w.heap.size 54 2 v (inLf k q) (lkL (shN N q) (shS S q) (inLf k q)) ∧ Below w.heap.size w w' := by
  have hle := hd.le
  have hz := zero_bk
  have HLF : Hid (∀ V, Below w.heap.size w V → Calls Tryz.prog 107 #[.pointer (some ⟨x, 0, none⟩), .int .i64 (n : Int), .int .i64 (q : Int)] V fun e w' => e = .returned (.tuple #[.agg (va 256 (iv .u8 (leF (shN N q) (shS S q) (inLf k q)))), .int .i64 0]) ∧ Below V.heap.size V w') := fun V hV => (h.below hV).leafD hd q (by omega)
  have HFR : Hid (∀ V : World, Calls Tryz.prog 108 #[.agg (va 256 (iv .u8 (leF (shN N q) (shS S q) (inLf k q)))), .int .i64 ((inLf k q : Nat) : Int)] V fun e w' => ∃ v, e = .returned (.tuple #[v, .int .i64 0]) ∧ w'.ownsRow V.heap.size 54 2 v (inLf k q) (lkL (shN N q) (shS S q) (inLf k q)) ∧ Below V.heap.size V w') := fromD _ _ _ (by unfold inLf; omega) (hd.four q)
  have HCT : Hid (∀ V : World, Calls Tryz.prog 51 #[.agg (nfC (n : Int) 2 l ((64 * k : Nat) : Int) st)] V fun e w' => e = .returned (.int .i64 (k : Int)) ∧ Below V.heap.size V w') := count_any (n : Int) 2 l k st hle
  have hm : min (4 : Int) ((k : Int) - (q : Int) * 4) = ((inLf k q : Nat) : Int) := by unfold inLf; omega
  have k1 : (k : Int) ≤ 16384 := by omega
  have q1 : (q : Int) ≤ 4096 := by omega
  have wq : IntKind.i64.wrap ((q : Int) * 4) = (q : Int) * 4 := by simp [IntKind.wrap, IntKind.signed, IntKind.bits]; omega
  have hb1 : Below w.heap.size w (w.alloc (.cells (nfC (n : Int) 2 l ((64 * k : Nat) : Int) st) 40)) := below_new1 _ _
  have p1 : Blk (w.alloc (.cells (nfC (n : Int) 2 l ((64 * k : Nat) : Int) st) 40)) w.heap.size 40 (nfC (n : Int) 2 l ((64 * k : Nat) : Int) st) := Blk.new _ _ _
  have c0 := (nf_cs p1).1
  have H1 := HLF.out _ hb1
  clear h hd HLF hle hq
  generalize leF (shN N q) (shS S q) (inLf k q) = F at *
  generalize lkL (shN N q) (shS S q) (inLf k q) = L at *
  generalize inLf k q = m at *
  generalize ((64 * k : Nat) : Int) = z at *
  go_enter Tryz.func80, Tryz.ntmps80
  go_wp2_with fail
  generalize (w.alloc (.cells (nfC (n : Int) 2 l z st) 40)) = w1 at *
  refine H1.mono ?_
  rintro e w2 ⟨rfl, hb2⟩
  have p2 := p1.below hb2 p1.lt
  have hl2 := p2.lt
  have u1 : Blk (w2.alloc (.cells (va 256 (iv .u8 fun _ => 0)) 207)) w2.heap.size 207 (va 256 (iv .u8 fun _ => 0)) := Blk.new _ _ _
  have p3 : Blk (w2.alloc (.cells (va 256 (iv .u8 fun _ => 0)) 207)) w.heap.size 40 (nfC (n : Int) 2 l z st) := p2.alloc _
  have hb3 : Below w.heap.size w (w2.alloc (.cells (va 256 (iv .u8 fun _ => 0)) 207)) := (hb1.trans (hb2.mono hb1.size)).alloc (by have := hb1.size; have := hb2.size; omega) _
  have hS0 : Blk ((w2.alloc (.cells (va 256 (iv .u8 fun _ => 0)) 207)).setRow w2.heap.size (va 256 (iv .u8 F))).drew w2.heap.size 207 (va 256 (iv .u8 F)) ∧ Blk ((w2.alloc (.cells (va 256 (iv .u8 fun _ => 0)) 207)).setRow w2.heap.size (va 256 (iv .u8 F))).drew w.heap.size 40 (nfC (n : Int) 2 l z st) := ⟨(u1.set _).drew, (p3.other _ (by omega)).drew⟩
  have HB : Hid (Below w.heap.size w ((w2.alloc (.cells (va 256 (iv .u8 fun _ => 0)) 207)).setRow w2.heap.size (va 256 (iv .u8 F))).drew) := (below_setRow hb3 (by omega) _).drew
  clear p1 p2 p3 hb1 hb2 hb3 c0 H1
  go_wp2_with (first
    | (refine wpList_store_row (by rfl) 207 _ _ (by rfl) (w2.heap.size) (va 256 (iv .u8 F)) (by rfl) (by rfl) 207 _ u1 (sizeBk.trans (by rw [va_size])) (by simp only [va_size]) (iv_one _ _ _) ?_; simp only [Act.put, sgPHFiMath])
    | fail)
  refine wp_region_plan (fun W => Blk W w2.heap.size 207 (va 256 (iv .u8 F)) ∧ Blk W w.heap.size 40 (nfC (n : Int) 2 l z st)) (.yield [] 0 (.yield [] 1 (.yield [3] 4 (.force [] 2 (.force [] 5 (.force [] 6 (.force [] 7 (.fin [8, 9, 10, 11])))))))) (by kernel_rfl) (by kernel_rfl) hS0 (plan_yield ?_)
  clear u1
  generalize ((w2.alloc (.cells (va 256 (iv .u8 fun _ => 0)) 207)).setRow w2.heap.size (va 256 (iv .u8 F))).drew = w3 at *
  simp only [sgLHFiMath]
  go_wp2_with fail
  refine ⟨rfl, _, .agg (va 256 (iv .u8 F)), rfl, kyields_load (by rfl) 207 _ (by rfl) (w2.heap.size) 256 (iv .u8 F) (by rfl) _ 207 (fun W hW => hW.1) Tryz.underlying207 rfl sizeBk, plan_yield ?_⟩
  simp only [Act.put, sgPHFiMath]
  simp only [sgLHFiMath]
  go_wp2_with fail
  refine ⟨rfl, _, .agg (nfC (n : Int) 2 l z st), rfl, Or.inl ⟨by rfl, fun W hW => by obtain ⟨d0, d1, d2, d3, d4⟩ := nf_cs hW.2; go_simp; rfl⟩, plan_yield ?_⟩
  simp only [Act.put, sgPHFiMath]
  simp only [sgLHFiMath]
  go_wp2_with fail
  refine ⟨rfl, _, .int .i64 ((q : Int) * 4), rfl, Or.inl ⟨by rfl, fun W hW => by go_simp⟩, plan_force ?_⟩
  simp only [Act.put, sgPHFiMath]
  simp only [sgLHFiMath]
  go_wp2_with fail
  refine (HCT.out _).mono ?_
  rintro e w4 ⟨rfl, hb4⟩
  have hS4 : Blk w4 w2.heap.size 207 (va 256 (iv .u8 F)) ∧ Blk w4 w.heap.size 40 (nfC (n : Int) 2 l z st) := ⟨hS0.1.below hb4 hS0.1.lt, hS0.2.below hb4 hS0.2.lt⟩
  have HB4 : Hid (Below w.heap.size w w4) := HB.out.trans (hb4.mono HB.out.size)
  clear hb4 HB hS0
  go_wp2_with fail
  refine ⟨rfl, hS4, plan_force ?_⟩
  simp only [sgLHFiMath]
  go_wp2_with fail
  refine ⟨rfl, hS4, plan_force ?_⟩
  simp only [sgLHFiMath]
  go_wp2_with fail
  refine ⟨rfl, hS4, plan_force ?_⟩
  simp only [sgLHFiMath]
  go_wp2_with fail
  refine (HFR.out _).mono ?_
  rintro e w5 ⟨v, rfl, hv, hb5⟩
  have hS5 : Blk w5 w2.heap.size 207 (va 256 (iv .u8 F)) ∧ Blk w5 w.heap.size 40 (nfC (n : Int) 2 l z st) := ⟨hS4.1.below hb5 hS4.1.lt, hS4.2.below hb5 hS4.2.lt⟩
  have HE : Hid (w5.ownsRow w.heap.size 54 2 v m L ∧ Below w.heap.size w w5) := ⟨kown_mono hv (HB4.out.size), HB4.out.trans (hb5.mono HB4.out.size)⟩
  clear hv hb5 HB4
  go_wp2_with fail
  refine ⟨rfl, hS5, plan_fin ?_⟩
  simp only [sgLHFiMath]
  go_wp2_with fail
  refine ⟨rfl, ?_⟩
  go_wp2_with fail
  go_ret2
  exact ⟨v, rfl, HE.out.1, HE.out.2⟩
end
end Go.Proofs.YtimjggkdpmgpjaaGreatDoor

namespace Go.Proofs.YtimjggkdpmgpjaaGreatDoor
open Go Go.RowKit
set_option linter.unusedSimpArgs false
set_option linter.unusedVariables false
section
variable {w : World} {x mf ml mc : Nat} {cp : Option Addr} {top : Int} {H : Nat → Hd} {D : Nat → Nat → Nat → Nat} {n k st : Nat} {N : Nat → Int} {S : Nat → ByteArray}
/-- p is the first place of a name, or how many entries there are -/
def FirstN (S : Nat → ByteArray) (k p : Nat) (s : ByteArray) : Prop := p ≤ k ∧ (∀ r, r < p → S r ≠ s) ∧ (p < k → S p = s)
/-- the leaf that is read last -/
def lastQ (k p : Nat) : Nat := min p (k - 1) / 4
set_option maxRecDepth 100000 in
set_option maxHeartbeats 8000000 in
theorem IM.search (h : IM w x mf ml mc cp top H D) (hd : Di H D n k st N S) (l : Int) (s : ByteArray) (p : Nat) (hp : FirstN S k p s) (r0 er : Int) (hr : r0 = if p < k then (p : Int) else 0) (her : er = if p < k then 0 else 171) : Calls Tryz.prog 50 #[.pointer (some ⟨x, 0, none⟩), .agg (nfC (n : Int) 2 l ((64 * k : Nat) : Int) st), .string s] w fun e w' => ∃ v, e = .returned (.tuple #[.int .i64 r0, v, .int .i64 er]) ∧ w'.ownsRow w.heap.size 54 2 v (inLf k (lastQ k p)) (lkL (shN N (lastQ k p)) (shS S (lastQ k p)) (inLf k (lastQ k p))) ∧ Below w.heap.size w w' := by
  have hle := hd.le
  have HEN : Hid (∀ (q : Nat), 4 * q < k → ∀ V, Below w.heap.size w V → Calls Tryz.prog 80 #[.pointer (some ⟨x, 0, none⟩), .agg (nfC (n : Int) 2 l ((64 * k : Nat) : Int) st), .int .i64 (q : Int)] V fun e w' => ∃ v, e = .returned (.tuple #[v, .int .i64 0]) ∧ w'.ownsRow V.heap.size 54 2 v (inLf k q) (lkL (shN N q) (shS S q) (inLf k q)) ∧ Below V.heap.size V w') := fun q hq V hV => (h.below hV).entries hd l q hq
  have HCT : Hid (∀ V : World, Calls Tryz.prog 51 #[.agg (nfC (n : Int) 2 l ((64 * k : Nat) : Int) st)] V fun e w' => e = .returned (.int .i64 (k : Int)) ∧ Below V.heap.size V w') := count_any (n : Int) 2 l k st hle
  have HP : Hid (p ≤ k ∧ (∀ r, r < p → S r ≠ s) ∧ (p < k → S p = s) ∧ r0 = (if p < k then (p : Int) else 0) ∧ er = if p < k then 0 else 171) := ⟨hp.1, hp.2.1, hp.2.2, hr, her⟩
  have k1 : (k : Int) ≤ 16384 := by omega
  have hb1 : Below w.heap.size w ((w.alloc (.cells (nfC (n : Int) 2 l ((64 * k : Nat) : Int) st) 40)).alloc (.cells #[.string s] 9)) := below_new2 _ _ _
  have p1 : Blk ((w.alloc (.cells (nfC (n : Int) 2 l ((64 * k : Nat) : Int) st) 40)).alloc (.cells #[.string s] 9)) w.heap.size 40 (nfC (n : Int) 2 l ((64 * k : Nat) : Int) st) := (Blk.new _ _ _).alloc _
  have p2 : Blk ((w.alloc (.cells (nfC (n : Int) 2 l ((64 * k : Nat) : Int) st) 40)).alloc (.cells #[.string s] 9)) (w.heap.size + 1) 9 #[.string s] := Blk.new1 _ _ _ _
  have H0 : Hid (_ ∧ _ ∧ _) := ⟨p1, p2, hb1⟩
  clear h hd hp hr her hb1 p1 p2
  generalize ((64 * k : Nat) : Int) = z at *
  go_enter Tryz.func50, Tryz.ntmps50
  go_wp2_with fail
  generalize ((w.alloc (.cells (nfC (n : Int) 2 l z st) 40)).alloc (.cells #[.string s] 9)) = w1 at *
  go_loopw [9, 10] (fun v9 v10 wr => Hid (∃ f q : Nat, f = 4 * q ∧ v10 = .int .i64 (f : Int) ∧ (4 * q ≤ p ∨ (p = k ∧ 4 * q < k + 4)) ∧ ((q = 0 ∧ v9 = .slice none 0 0) ∨ (0 < q ∧ wr.ownsRow w.heap.size 54 2 v9 (inLf k (q - 1)) (lkL (shN N (q - 1)) (shS S (q - 1)) (inLf k (q - 1))))) ∧ Blk wr w.heap.size 40 (nfC (n : Int) 2 l z st) ∧ Blk wr (w.heap.size + 1) 9 #[.string s] ∧ Below w.heap.size w wr)) (fun _ v10 _ => k + 4 - (intOf v10).toNat)
  case atStart => exact ⟨0, 0, rfl, rfl, .inl (Nat.zero_le _), .inl ⟨rfl, rfl⟩, H0.out.1, H0.out.2.1, H0.out.2.2⟩
  case round =>
    obtain ⟨f, q, hf, rfl, hq, hv9, b0, b1, hbel⟩ := Hid.out hrel
    have f1 : (f : Int) ≤ 20000 := by have := HP.out.1; omega
    have d2 : (f : Int) / 4 = (q : Int) := by omega
    have HQ : Hid (f = 4 * q ∧ (4 * q ≤ p ∨ (p = k ∧ 4 * q < k + 4)) ∧ ((q = 0 ∧ u9 = .slice none 0 0) ∨ (0 < q ∧ wr.ownsRow w.heap.size 54 2 u9 (inLf k (q - 1)) (lkL (shN N (q - 1)) (shS S (q - 1)) (inLf k (q - 1)))))) := ⟨hf, hq, hv9⟩
    clear hrel hf hq hv9 H0
    go_wp2_with (first
      | (refine wpList_load_row (by rfl) 40 _ (by rfl) (w.heap.size) (by rfl) 40 (nfC (n : Int) 2 l z st) (0, 0) _ (by exact b0) Tryz.underlying40 (by rfl) (size_nf.trans (by rfl)) ?_; simp only [Act.put, sgPHFiMath])
      | fail)
    refine (HCT.out _).mono ?_
    rintro e w2 ⟨rfl, hb2⟩
    have B2 : Hid (Blk w2 w.heap.size 40 (nfC (n : Int) 2 l z st) ∧ Blk w2 (w.heap.size + 1) 9 #[.string s] ∧ Below w.heap.size w w2) := ⟨b0.below hb2 b0.lt, b1.below hb2 b1.lt, hbel.trans (hb2.mono hbel.size)⟩
    have HV9 : Hid (0 < q → w2.ownsRow w.heap.size 54 2 u9 (inLf k (q - 1)) (lkL (shN N (q - 1)) (shS S (q - 1)) (inLf k (q - 1)))) := fun h0 => by
      rcases HQ.out.2.2 with h | h
      · omega
      · exact kownBel h.2 hb2
    clear hb2 b0 b1 hbel
    by_cases c : f < k
    · have c1 : (f : Int) < (k : Int) := by omega
      obtain ⟨lp, hlp⟩ : ∃ lp, lp = min (p - 4 * q) (inLf k q) := ⟨_, rfl⟩
      have hi4 : inLf k q ≤ 4 := by unfold inLf; omega
      have HX : Hid (lp ≤ inLf k q ∧ (∀ r, r < lp → shS S q r ≠ s) ∧ (lp < inLf k q → shS S q lp = s) ∧ (lp < inLf k q → p < k ∧ 4 * q + lp = p ∧ lastQ k p = q) ∧ (¬ lp < inLf k q → 4 * (q + 1) ≤ p ∨ (p = k ∧ 4 * (q + 1) < k + 4))) := by
        obtain ⟨g1, g2, g3, _, _⟩ := HP.out
        obtain ⟨j1, j2, _⟩ := HQ.out
        have hx : lp < inLf k q → p < k ∧ 4 * q + lp = p ∧ lastQ k p = q := fun h => by
          unfold lastQ
          unfold inLf at h hlp
          omega
        refine ⟨by omega, fun r hr => g2 (4 * q + r) (by omega), fun h => ?_, hx, fun h => ?_⟩
        · have := hx h
          show S (4 * q + lp) = s
          rw [this.2.1]
          exact g3 this.1
        · unfold inLf at h hlp
          omega
      have HEq := HEN.out q (by have := HQ.out.1; omega) w2 B2.out.2.2
      have b2 := B2.out.1
      clear hlp c
      go_wp2_with (first
        | (refine wpList_load_row (by rfl) 40 _ (by rfl) (w.heap.size) (by rfl) 40 (nfC (n : Int) 2 l z st) (0, 0) _ (by exact b2) Tryz.underlying40 (by rfl) (size_nf.trans (by rfl)) ?_; simp only [Act.put, sgPHFiMath])
        | fail)
      refine HEq.mono ?_
      rintro e w3 ⟨v, rfl, hv, hb3⟩
      obtain ⟨a, cc, rfl, hI, hcc⟩ := own_lks hv
      have B3 : Hid (Blk w3 w.heap.size 40 (nfC (n : Int) 2 l z st) ∧ Blk w3 (w.heap.size + 1) 9 #[.string s] ∧ Below w.heap.size w w3) := ⟨B2.out.1.below hb3 B2.out.1.lt, B2.out.2.1.below hb3 B2.out.2.1.lt, B2.out.2.2.trans (hb3.mono B2.out.2.2.size)⟩
      have HV : Hid (w3.ownsRow w.heap.size 54 2 (.slice a (inLf k q) cc) (inLf k q) (lkL (shN N q) (shS S q) (inLf k q))) := kown_mono hv B2.out.2.2.size
      have HIX := index_any a (inLf k q) cc (w.heap.size + 1) lp hi4 (shN N q) (shS S q) s HX.out.1 HX.out.2.1 HX.out.2.2.1 w3 hI ((B3.out.2.1.cell 0).trans rfl) B3.out.2.1.lt _ rfl
      clear hv hI hb3 b2 B2 HEq hcc
      obtain ⟨m, hm⟩ : ∃ m, inLf k q = m := ⟨_, rfl⟩
      have HM : Hid (inLf k q = m) := hm
      rw [hm] at HIX hi4
      simp only [hm]
      by_cases hit : lp < m
      · rw [if_pos hit] at HIX
        have HR : Hid ((f : Int) + (lp : Int) = r0 ∧ er = 0 ∧ lastQ k p = q) := by
          obtain ⟨_, _, _, g4, g5⟩ := HP.out
          obtain ⟨_, _, _, g6, _⟩ := HX.out
          have := g6 (by omega)
          have := HQ.out.1
          refine ⟨?_, by rw [g5, if_pos (by omega)], by omega⟩
          rw [g4, if_pos (by omega)]
          omega
        have lp0 : ¬ ((lp : Int) < 0) := by omega
        have lp4 : (lp : Int) ≤ 4 := by omega
        clear hm hit
        go_wp2_with fail
        refine HIX.mono ?_
        rintro e w4 ⟨rfl, hb4⟩
        have HE : Hid (w4.ownsRow w.heap.size 54 2 (.slice a m cc) (inLf k q) (lkL (shN N q) (shS S q) (inLf k q)) ∧ Below w.heap.size w w4) := ⟨by have := kownBel HV.out hb4; rw [HM.out] at this ⊢; exact this, B3.out.2.2.trans (hb4.mono B3.out.2.2.size)⟩
        clear HIX hb4
        go_wp2_with fail
        go_ret3
        refine ⟨.slice a m cc, ?_, ?_, HE.out.2⟩
        · rw [← HR.out.1, HR.out.2.1]
          rfl
        · rw [HR.out.2.2]
          exact HE.out.1
      · rw [if_neg hit] at HIX
        have HR : Hid (4 * (q + 1) ≤ p ∨ (p = k ∧ 4 * (q + 1) < k + 4)) := HX.out.2.2.2.2 (by omega)
        clear hm hit
        go_wp2_with fail
        refine HIX.mono ?_
        rintro e w4 ⟨rfl, hb4⟩
        have HE : Hid (w4.ownsRow w.heap.size 54 2 (.slice a m cc) (inLf k q) (lkL (shN N q) (shS S q) (inLf k q)) ∧ Blk w4 w.heap.size 40 (nfC (n : Int) 2 l z st) ∧ Blk w4 (w.heap.size + 1) 9 #[.string s] ∧ Below w.heap.size w w4) := ⟨by have := kownBel HV.out hb4; rw [HM.out] at this ⊢; exact this, B3.out.1.below hb4 B3.out.1.lt, B3.out.2.1.below hb4 B3.out.2.1.lt, B3.out.2.2.trans (hb4.mono B3.out.2.2.size)⟩
        clear HIX hb4
        go_wp2_with fail
        go_roundw
        case rel => exact ⟨f + 4, q + 1, by have := HQ.out.1; omega, by first | rfl | go_num | simp, HR.out, .inr ⟨Nat.succ_pos _, HE.out.1⟩, HE.out.2.1, HE.out.2.2.1, HE.out.2.2.2⟩
        case measure => simp [intOf]; omega
    · have c1 : ¬ ((f : Int) < (k : Int)) := by omega
      have HR : Hid (r0 = 0 ∧ er = 171 ∧ w2.ownsRow w.heap.size 54 2 u9 (inLf k (lastQ k p)) (lkL (shN N (lastQ k p)) (shS S (lastQ k p)) (inLf k (lastQ k p)))) := by
        obtain ⟨g1, _, _, g4, g5⟩ := HP.out
        obtain ⟨j1, j2, j3⟩ := HQ.out
        have hpk : ¬ p < k := by omega
        refine ⟨by rw [g4, if_neg hpk], by rw [g5, if_neg hpk], ?_⟩
        rcases j3 with ⟨h0, h9⟩ | ⟨h0, _⟩
        · have hk0 : k = 0 := by omega
          have e0 : inLf k (lastQ k p) = 0 := by unfold inLf; omega
          rw [h9, e0]
          exact World.ownsRow_nil _ _ _ _
        · have e1 : lastQ k p = q - 1 := by unfold lastQ; omega
          rw [e1]
          exact HV9.out h0
      clear c
      go_wp2_with fail
      go_ret3
      exact ⟨u9, by rw [HR.out.1, HR.out.2.1]; rfl, HR.out.2.2, B2.out.2.2⟩
end
end Go.Proofs.YtimjggkdpmgpjaaGreatDoor

namespace Go.Proofs.YtimjggkdpmgpjaaGreatDoor
open Go Go.RowKit
set_option linter.unusedVariables false
theorem fst_ex (S : Nat → ByteArray) (s : ByteArray) : ∀ k, ∃ p, FirstN S k p s
  | 0 => ⟨0, Nat.le_refl _, fun r hr => absurd hr (Nat.not_lt_zero _), fun h => absurd h (Nat.not_lt_zero _)⟩
  | k + 1 => by
    obtain ⟨p, h1, h2, h3⟩ := fst_ex S s k
    by_cases hp : p < k
    · exact ⟨p, by omega, h2, fun _ => h3 hp⟩
    · have hpk : p = k := by omega
      subst hpk
      by_cases hs : S p = s
      · exact ⟨p, by omega, h2, fun _ => hs⟩
      · refine ⟨p + 1, Nat.le_refl _, fun r hr => ?_, fun h => absurd h (Nat.lt_irrefl _)⟩
        by_cases hr2 : r = p
        · subst hr2; exact hs
        · exact h2 r (by omega)
/-- the first place of a name -/
noncomputable def fiN (S : Nat → ByteArray) (k : Nat) (s : ByteArray) : Nat := Classical.choose (fst_ex S s k)
theorem fiN_is (S : Nat → ByteArray) (k : Nat) (s : ByteArray) : FirstN S k (fiN S k s) s := Classical.choose_spec (fst_ex S s k)
/-- directories by number, and their entries -/
structure Fo where
  dr : Nat → Bool
  K : Nat → Nat
  N : Nat → Nat → Int
  S : Nat → Nat → ByteArray
/-- the inode behind so many names, as long as nothing is wrong -/
noncomputable def wkA (F : Fo) (nm : Nat → ByteArray) : Nat → Nat
  | 0 => 1
  | i + 1 => (F.N (wkA F nm i) (fiN (F.S (wkA F nm i)) (F.K (wkA F nm i)) (nm i))).toNat
/-- the place of the name -/
noncomputable def wkP (F : Fo) (nm : Nat → ByteArray) (i : Nat) : Nat := fiN (F.S (wkA F nm i)) (F.K (wkA F nm i)) (nm i)
/-- what is wrong with it -/
noncomputable def wkE (F : Fo) (nm : Nat → ByteArray) (i : Nat) : Int := if F.dr (wkA F nm i) = true then (if wkP F nm i < F.K (wkA F nm i) then 0 else 171) else 170
/-- what is wrong with so many steps -/
noncomputable def feE (F : Fo) (nm : Nat → ByteArray) : Nat → Int
  | 0 => 0
  | i + 1 => if feE F nm i = 0 then wkE F nm i else feE F nm i
def naE (nm : Nat → ByteArray) : Nat → Int
  | 0 => 0
  | i + 1 => if naE nm i = 0 then nameE (nm i).data.toList else naE nm i
/-- what is wrong with so many names -/
noncomputable def wkR (F : Fo) (nm : Nat → ByteArray) (n : Nat) : Int := if naE nm n = 0 then feE F nm n else naE nm n
theorem wkA_succ (F : Fo) (nm : Nat → ByteArray) (i : Nat) : wkA F nm (i + 1) = (F.N (wkA F nm i) (wkP F nm i)).toNat := rfl
theorem feE_stay {F : Fo} {nm : Nat → ByteArray} {i : Nat} (h : feE F nm i ≠ 0) : ∀ n, i ≤ n → feE F nm n = feE F nm i
  | 0, hn => by
    obtain rfl : i = 0 := by omega
    rfl
  | n + 1, hn => by
    by_cases e : i = n + 1
    · rw [e]
    · have ih := feE_stay h n (by omega)
      show (if feE F nm n = 0 then wkE F nm n else feE F nm n) = _
      rw [ih, if_neg h]
theorem feE_none {F : Fo} {nm : Nat → ByteArray} {n : Nat} (h : feE F nm n = 0) (i : Nat) (hi : i ≤ n) : feE F nm i = 0 :=
  Classical.byContradiction fun hc => hc (by rw [← feE_stay hc n hi]; exact h)
theorem naE_stay {nm : Nat → ByteArray} {i : Nat} (h : naE nm i ≠ 0) : ∀ n, i ≤ n → naE nm n = naE nm i
  | 0, hn => by
    obtain rfl : i = 0 := by omega
    rfl
  | n + 1, hn => by
    by_cases e : i = n + 1
    · rw [e]
    · have ih := naE_stay h n (by omega)
      show (if naE nm n = 0 then nameE (nm n).data.toList else naE nm n) = _
      rw [ih, if_neg h]
theorem naE_none {nm : Nat → ByteArray} {n : Nat} (h : naE nm n = 0) (i : Nat) (hi : i ≤ n) : naE nm i = 0 :=
  Classical.byContradiction fun hc => hc (by rw [← naE_stay hc n hi]; exact h)
theorem naE_each {nm : Nat → ByteArray} {n : Nat} (h : naE nm n = 0) (i : Nat) (hi : i < n) : isName (nm i).data.toList = true := by
  have h1 := naE_none h i (by omega)
  have h2 := naE_none h (i + 1) (by omega)
  have h3 : nameE (nm i).data.toList = 0 := by
    have : (if naE nm i = 0 then nameE (nm i).data.toList else naE nm i) = 0 := h2
    rwa [if_pos h1] at this
  unfold nameE at h3
  by_cases c : isName (nm i).data.toList = true
  · exact c
  · rw [if_neg c] at h3
    exact absurd h3 (by decide)
theorem nameE_two (l : List UInt8) : nameE l = 0 ∨ nameE l = 130 := by
  unfold nameE
  split
  · exact .inl rfl
  · exact .inr rfl
theorem wkE_three (F : Fo) (nm : Nat → ByteArray) (i : Nat) : wkE F nm i = 0 ∨ wkE F nm i = 170 ∨ wkE F nm i = 171 := by
  unfold wkE
  repeat' split
  · exact .inl rfl
  · exact .inr (.inr rfl)
  · exact .inr (.inl rfl)
theorem naE_step {nm : Nat → ByteArray} {i : Nat} (h : naE nm i = 0) : naE nm (i + 1) = nameE (nm i).data.toList := by
  show (if naE nm i = 0 then nameE (nm i).data.toList else naE nm i) = _
  rw [if_pos h]
theorem feE_step {F : Fo} {nm : Nat → ByteArray} {i : Nat} (h : feE F nm i = 0) : feE F nm (i + 1) = wkE F nm i := by
  show (if feE F nm i = 0 then wkE F nm i else feE F nm i) = _
  rw [if_pos h]
theorem wkR_name {F : Fo} {nm : Nat → ByteArray} {i n : Nat} (h : naE nm i = 0) (hi : i < n) (hs : nameE (nm i).data.toList ≠ 0) : wkR F nm n = nameE (nm i).data.toList := by
  have h1 : naE nm (i + 1) = nameE (nm i).data.toList := naE_step h
  have h2 : naE nm n = nameE (nm i).data.toList := (naE_stay (by rw [h1]; exact hs) n hi).trans h1
  unfold wkR
  rw [h2, if_neg hs]
theorem wkR_step {F : Fo} {nm : Nat → ByteArray} {i n : Nat} (hn : naE nm n = 0) (h : feE F nm i = 0) (hi : i < n) (hs : wkE F nm i ≠ 0) : wkR F nm n = wkE F nm i := by
  have h1 : feE F nm (i + 1) = wkE F nm i := feE_step h
  unfold wkR
  rw [if_pos hn]
  exact (feE_stay (by rw [h1]; exact hs) n hi).trans h1
theorem wkR_ok {F : Fo} {nm : Nat → ByteArray} {n : Nat} (hn : naE nm n = 0) (h : feE F nm n = 0) : wkR F nm n = 0 := by
  unfold wkR
  rw [if_pos hn, h]
theorem wkR_zero {F : Fo} {nm : Nat → ByteArray} {n : Nat} (h : wkR F nm n = 0) : naE nm n = 0 ∧ feE F nm n = 0 := by
  unfold wkR at h
  by_cases c : naE nm n = 0
  · rw [if_pos c] at h
    exact ⟨c, h⟩
  · rw [if_neg c] at h
    exact absurd h c
end Go.Proofs.YtimjggkdpmgpjaaGreatDoor
