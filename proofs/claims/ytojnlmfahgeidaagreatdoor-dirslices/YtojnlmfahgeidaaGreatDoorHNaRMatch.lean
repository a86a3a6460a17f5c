/- The document's Match: a row for each beginning of the pattern. -/
import Derived.Test.YtojnlmfahgeidaaGreatDoorHTrRead
import Derived.Deep.Cut
import Derived.Handy
import Derived.Test.YtojnlmfahgeidaaGreatDoorHNaCmp2
import Derived.Test.YtojnlmfahgeidaaGreatDoorHNaRSo
import Derived.Test.YtojnlmfahgeidaaGreatDoorHDiRSmall
import Derived.Test.YtojnlmfahgeidaaGreatDoorHDiPage
import Derived.Test.YtojnlmfahgeidaaGreatDoorHBlkGroups
import Derived.Test.YtojnlmfahgeidaaGreatDoorHMath
import Derived.BigRegion
import Derived.Maps.AppendAt

namespace Go.Proofs.YtojnlmfahgeidaaGreatDoor
theorem sgLHNaRMatch : (∀ (α : Type) (a : α) (l r : List α), (a :: l) ++ r = a :: (l ++ r)) ∧ (∀ (α : Type) (l : List α), [] ++ l = l) ∧ (∀ (α : Type) (l : List α), l ++ [] = l) ∧ (∀ (α β : Type) (f : α → Option β) (a : α) (l : List α), (a :: l).filterMap f = match f a with | none => l.filterMap f | some b => b :: l.filterMap f) ∧ (∀ (α β : Type) (f : α → Option β), [].filterMap f = []) ∧ (∀ (α : Type) (l : List α) (i : Nat), l.toArray[i]? = l[i]?) ∧ (∀ (α : Type) (a : α) (l : List α), (a :: l)[0]? = some a) ∧ (∀ (α : Type) (a : α) (l : List α) (i : Nat), (a :: l)[i + 1]? = l[i]?) :=
  ⟨fun _ _ _ _ => List.cons_append, fun _ _ => List.nil_append _, fun _ _ => List.append_nil _, fun _ _ _ _ _ => List.filterMap_cons, fun _ _ _ => List.filterMap_nil, fun _ _ _ => List.getElem?_toArray, fun _ _ _ => List.getElem?_cons_zero, fun _ _ _ _ => List.getElem?_cons_succ⟩
theorem sgPHNaRMatch : (∀ (α : Type) (l : List α) (i : Nat) (a : α), l.toArray.setIfInBounds i a = (l.set i a).toArray) ∧ (∀ (α : Type) (a b : α) (l : List α), (a :: l).set 0 b = b :: l) ∧ (∀ (α : Type) (a b : α) (l : List α) (i : Nat), (a :: l).set (i + 1) b = a :: l.set i b) :=
  ⟨fun _ _ _ _ => List.setIfInBounds_toArray _ _ _, fun _ _ _ _ => List.set_cons_zero, fun _ _ _ _ _ => List.set_cons_succ⟩
end Go.Proofs.YtojnlmfahgeidaaGreatDoor
namespace Go.Proofs.YtojnlmfahgeidaaGreatDoor
open Go Go.RowKit Go.Nam
set_option linter.unusedSimpArgs false
set_option linter.unusedVariables false
structure AL2 (w U : World) (al aw : Option Addr) (m : Nat) (NR : Nat → Int) (SR : Nat → ByteArray) : Prop where
  ll : IsLkC U al m NR SR
  lw : IsLkC U aw m NR SR
  bl : Below w.heap.size w U
theorem AL2.below {w U V : World} {al aw : Option Addr} {m : Nat} {NR : Nat → Int} {SR : Nat → ByteArray} (h : AL2 w U al aw m NR SR) (hb : Below U.heap.size U V) : AL2 w V al aw m NR SR := ⟨h.ll.below hb, h.lw.below hb, h.bl.trans (hb.mono h.bl.size)⟩
theorem AL2.drew {w U : World} {al aw : Option Addr} {m : Nat} {NR : Nat → Int} {SR : Nat → ByteArray} (h : AL2 w U al aw m NR SR) : AL2 w U.drew al aw m NR SR := h.below ⟨rfl, rfl, rfl, Nat.le_refl _, fun _ _ => rfl⟩
set_option maxRecDepth 100000 in
set_option maxHeartbeats 8000000 in
theorem alike_same (al aw : Option Addr) (m c c' : Nat) (hm : m ≤ 16384) (NR : Nat → Int) (SR : Nat → ByteArray) (w : World) (hl : IsLkC w al m NR SR) (hw : IsLkC w aw m NR SR) : Calls Tryz.prog 30 #[.slice al m c, .slice aw m c'] w fun e w' => e = .returned (.bool true) ∧ Below w.heap.size w w' := by
  have HS8 : Hid (AL2 w w al aw m NR SR) := ⟨hl, hw, Below.refl _ _⟩
  have HLK : Hid (∀ (i : Int) (s : ByteArray) (w : World), Calls Tryz.prog 22 #[.agg #[.int .i64 i, .string s]] w fun e w' => e = .returned (.agg #[.int .i64 i, .string s]) ∧ Below w.heap.size w w') := link17_any
  clear hl hw
  have mz : (m : Int) ≤ 16384 := by omega
  go_enter Tryz.func30, Tryz.ntmps30
  go_wp2_with fail
  go_loopw [5] (fun v wr => Hid (∃ j : Nat, j ≤ m ∧ v = .int .i64 (j : Int) ∧ AL2 w wr al aw m NR SR)) (fun v _ => m - (intOf v).toNat)
  case atStart => exact ⟨0, Nat.zero_le _, rfl, HS8.out⟩
  case round =>
    obtain ⟨j, hj, rfl, hg⟩ := Hid.out hrel
    have HG : Hid (AL2 w wr al aw m NR SR) := hg
    clear hrel hg HS8
    by_cases hin : j < m
    · have i1 : (j : Int) < (m : Int) := by omega
      have i0 : (0 : Int) ≤ (j : Int) := by omega
      have heq := eq_rlk_same
      obtain ⟨b1, o1, el, _⟩ := HG.out.ll j hin
      subst el
      obtain ⟨b2, o2, ew, _⟩ := HG.out.lw j hin
      subst ew
      have hS0 : AL2 w wr.drew (some ⟨b1, o1, none⟩) (some ⟨b2, o2, none⟩) m NR SR := HG.out.drew
      go_wp2_with fail
      refine wp_region_partsS (fun U => AL2 w U (some ⟨b1, o1, none⟩) (some ⟨b2, o2, none⟩) m NR SR) [([0, 1, 2, 5, 6, 7], 3, true), ([], 8, true), ([], 4, false), ([], 9, false)] [] [] (by kernel_rfl) (by kernel_rfl) hS0 (partsI_yield ?_)
      simp only [sgLHNaRMatch]
      go_wp2_with fail
      refine ⟨rfl, _, .agg #[.int .i64 (NR j), .string (SR j)], rfl, Or.inl ⟨by rfl, fun W hW => by obtain ⟨q1, q2⟩ := hW.ll.cs hin; go_simp⟩, partsI_yield ?_⟩
      simp only [Act.put, sgPHNaRMatch]
      simp only [sgLHNaRMatch]
      go_wp2_with fail
      refine ⟨rfl, _, .agg #[.int .i64 (NR j), .string (SR j)], rfl, Or.inl ⟨by rfl, fun W hW => by obtain ⟨q1, q2⟩ := hW.lw.cs hin; go_simp⟩, partsI_force ?_⟩
      simp only [Act.put, sgPHNaRMatch]
      simp only [sgLHNaRMatch]
      go_wp2_with fail
      refine (HLK.out _ _ _).mono ?_
      rintro e w8 ⟨rfl, hb8⟩
      have hS8 : AL2 w w8 (some ⟨b1, o1, none⟩) (some ⟨b2, o2, none⟩) m NR SR := hS0.below hb8
      clear hb8
      go_wp2_with fail
      refine ⟨rfl, hS8, partsI_force ?_⟩
      simp only [sgLHNaRMatch]
      go_wp2_with fail
      refine ⟨rfl, hS8, partsI_last ?_⟩
      simp only [sgLHNaRMatch]
      go_wp2_with fail
      refine ⟨rfl, ?_⟩
      go_wp2_with fail
      go_roundw
      case rel => exact ⟨j + 1, by omega, by first | rfl | go_num | simp, hS8⟩
      case measure => simp [intOf]; omega
    · have i1 : ¬ (j : Int) < (m : Int) := by omega
      go_wp2_with fail
      go_ret
      exact ⟨rfl, HG.out.bl⟩
end Go.Proofs.YtojnlmfahgeidaaGreatDoor

namespace Go.Proofs.YtojnlmfahgeidaaGreatDoor
open Go Go.RowKit Go.Nam
set_option linter.unusedSimpArgs false
set_option linter.unusedVariables false
/-- two own rows lie apart -/
def Ap7 (v u : Value) : Prop := ∀ k, v.ownBlock = some k → u.ownBlock ≠ some k
theorem Ap7.symm {v u : Value} (h : Ap7 v u) : Ap7 u v := fun k h1 h2 => h k h2 h1
theorem Ap7.grow {W : World} {B e size n : Nat} {v u x : Value} {xs : List Value} (h : Ap7 v u) (ho : W.ownsRow B e size u n xs) (hx : x.ownBlock = v.ownBlock ∨ x.ownBlock = some W.heap.size) : Ap7 x u := by
  intro k h1 h2
  rcases hx with hx | hx
  · exact h k (by rw [← hx]; exact h1) h2
  · have h3 := (ho.lt k h2).2
    rw [hx] at h1
    injection h1 with h1
    omega
theorem ap7_ne {v u : Value} (h : Ap7 v u) : u.ownBlock = none ∨ u.ownBlock ≠ v.ownBlock := by
  cases hu : u.ownBlock with
  | none => exact Or.inl rfl
  | some k => exact Or.inr fun e => h k e.symm hu
/-- three own rows of entries -/
structure O3 (W : World) (B : Nat) (v1 v2 v3 : Value) (A1 A2 A3 : List Lk) : Prop where
  o1 : W.ownsRow B 58 2 v1 A1.length (lkR A1)
  o2 : W.ownsRow B 58 2 v2 A2.length (lkR A2)
  o3 : W.ownsRow B 58 2 v3 A3.length (lkR A3)
  a12 : Ap7 v1 v2
  a13 : Ap7 v1 v3
  a23 : Ap7 v2 v3
theorem O3.below {W W1 : World} {B : Nat} {v1 v2 v3 : Value} {A1 A2 A3 : List Lk} (h : O3 W B v1 v2 v3 A1 A2 A3) (hb : Below W.heap.size W W1) : O3 W1 B v1 v2 v3 A1 A2 A3 :=
  ⟨kown_kept h.o1 fun k _ hk => hb.block k (h.o1.lt k hk).2, kown_kept h.o2 fun k _ hk => hb.block k (h.o2.lt k hk).2, kown_kept h.o3 fun k _ hk => hb.block k (h.o3.lt k hk).2, h.a12, h.a13, h.a23⟩
theorem O3.alloc {W : World} {B : Nat} {v1 v2 v3 : Value} {A1 A2 A3 : List Lk} (h : O3 W B v1 v2 v3 A1 A2 A3) (o : Obj) : O3 (W.alloc o) B v1 v2 v3 A1 A2 A3 := ⟨h.o1.alloc o, h.o2.alloc o, h.o3.alloc o, h.a12, h.a13, h.a23⟩
theorem O3.app1 {W W1 : World} {B : Nat} {v1 v2 v3 u : Value} {A1 A2 A3 : List Lk} {p : Lk} (h : O3 W B v1 v2 v3 A1 A2 A3) (ho : W1.ownsRow B 58 2 u (A1.length + 1) (lkR (A1 ++ [p]))) (hg : W.grownBy W1 v1.ownBlock) (hv : u.ownBlock = v1.ownBlock ∨ u.ownBlock = some W.heap.size) : O3 W1 B u v2 v3 (A1 ++ [p]) A2 A3 :=
  ⟨(by rw [List.length_append]; exact ho), h.o2.kept hg (ap7_ne h.a12), h.o3.kept hg (ap7_ne h.a13), h.a12.grow h.o2 hv, h.a13.grow h.o3 hv, h.a23⟩
theorem O3.app2 {W W1 : World} {B : Nat} {v1 v2 v3 u : Value} {A1 A2 A3 : List Lk} {p : Lk} (h : O3 W B v1 v2 v3 A1 A2 A3) (ho : W1.ownsRow B 58 2 u (A2.length + 1) (lkR (A2 ++ [p]))) (hg : W.grownBy W1 v2.ownBlock) (hv : u.ownBlock = v2.ownBlock ∨ u.ownBlock = some W.heap.size) : O3 W1 B v1 u v3 A1 (A2 ++ [p]) A3 :=
  ⟨h.o1.kept hg (ap7_ne h.a12.symm), (by rw [List.length_append]; exact ho), h.o3.kept hg (ap7_ne h.a23), (h.a12.symm.grow h.o1 hv).symm, h.a13, h.a23.grow h.o3 hv⟩
theorem O3.app3 {W W1 : World} {B : Nat} {v1 v2 v3 u : Value} {A1 A2 A3 : List Lk} {p : Lk} (h : O3 W B v1 v2 v3 A1 A2 A3) (ho : W1.ownsRow B 58 2 u (A3.length + 1) (lkR (A3 ++ [p]))) (hg : W.grownBy W1 v3.ownBlock) (hv : u.ownBlock = v3.ownBlock ∨ u.ownBlock = some W.heap.size) : O3 W1 B v1 v2 u A1 A2 (A3 ++ [p]) :=
  ⟨h.o1.kept hg (ap7_ne h.a13.symm), h.o2.kept hg (ap7_ne h.a23.symm), (by rw [List.length_append]; exact ho), h.a12, (h.a13.symm.grow h.o1 hv).symm, (h.a23.symm.grow h.o2 hv).symm⟩
theorem flt_take (R : List Lk) (f : Lk → Bool) (j : Nat) (h : j < R.length) : (R.take (j + 1)).filter f = (R.take j).filter f ++ (if f (R.getD j (0, ⟨#[]⟩)) then [R.getD j (0, ⟨#[]⟩)] else []) := by
  rw [List.take_add_one, List.filter_append]
  congr 1
  rw [List.getElem?_eq_getElem h]
  have e : R.getD j (0, ⟨#[]⟩) = R[j] := by simp [List.getD, List.getElem?_eq_getElem h]
  rw [e]
  cases hf : f R[j] <;> simp [hf]
theorem soR_filter {R : List Lk} (h : SoR R) (f : Lk → Bool) : SoR (R.filter f) := List.Pairwise.filter _ h
end Go.Proofs.YtojnlmfahgeidaaGreatDoor

namespace Go.Proofs.YtojnlmfahgeidaaGreatDoor
open Go Go.RowKit
set_option linter.unusedSimpArgs false
set_option linter.unusedVariables false
section
variable {w : World} {xp : Value} {a : Int}
set_option maxRecDepth 100000 in
theorem matches_err (s : ByteArray) (er : Int) (her : er ≠ 0) (HD : ∀ V, Below w.heap.size w V → Calls Tryz.prog 57 #[xp, .int .i64 a] V fun e w' => e = .returned (.tuple #[.agg nf0, .int .i64 er]) ∧ Below V.heap.size V w') : Calls Tryz.prog 26 #[xp, .int .i64 a, .string s] w fun e w' => e = .returned (.tuple #[.slice none 0 0, .int .i64 er]) ∧ Below w.heap.size w w' := by
  have hzi : ∀ w, (zeroValue 86).run Tryz.prog w = .ok (.agg nf0) w := zero_nf
  have b0 : (er != 0) = true := bne_iff_ne.2 her
  have hb1 : Below w.heap.size w (w.alloc (.cells #[.string s] 9)) := below_new1 _ _
  have H1 := HD _ hb1
  clear HD her
  go_enter Tryz.func26, Tryz.ntmps26
  go_wp2_with fail
  generalize (w.alloc (.cells #[.string s] 9)) = w1 at *
  refine H1.mono ?_
  rintro e w2 ⟨rfl, hb2⟩
  have u1 : Blk (w2.alloc (.cells nf0 86)) w2.heap.size 86 nf0 := Blk.new _ _ _
  have u2 := u1.set nf0
  have hb12 := hb1.trans (hb2.mono hb1.size)
  have HB : Hid (Below w.heap.size w ((w2.alloc (.cells nf0 86)).setRow w2.heap.size nf0)) := below_setRow (hb12.alloc hb12.size _) hb12.size _
  clear hb1 hb2 hb12 H1
  go_wp2_with (first
    | (refine wpList_store_row (by rfl) 86 _ _ (by rfl) (w2.heap.size) (nf0) (by rfl) (by rfl) 86 (nf0) (by exact u1) (size_nf.trans (by rfl)) (by rfl) (nf_all _ _ _ _ _) ?_; simp only [Act.put, sgPHNaRMatch])
    | fail)
  go_ret2
  exact ⟨rfl, HB.out⟩
set_option maxRecDepth 100000 in
theorem page_err (s : ByteArray) (q : Int) (er : Int) (her : er ≠ 0) (HD : ∀ V, Below w.heap.size w V → Calls Tryz.prog 57 #[xp, .int .i64 a] V fun e w' => e = .returned (.tuple #[.agg nf0, .int .i64 er]) ∧ Below V.heap.size V w') : Calls Tryz.prog 24 #[xp, .int .i64 a, .string s, .int .i64 q] w fun e w' => e = .returned (.tuple #[.slice none 0 0, .bool false, .int .i64 er]) ∧ Below w.heap.size w w' := by
  have hzi : ∀ w, (zeroValue 86).run Tryz.prog w = .ok (.agg nf0) w := zero_nf
  have b0 : (er != 0) = true := bne_iff_ne.2 her
  have hb1 : Below w.heap.size w (w.alloc (.cells #[.string s] 9)) := below_new1 _ _
  have H1 := HD _ hb1
  clear HD her
  go_enter Tryz.func24, Tryz.ntmps24
  go_wp2_with fail
  generalize (w.alloc (.cells #[.string s] 9)) = w1 at *
  refine H1.mono ?_
  rintro e w2 ⟨rfl, hb2⟩
  have u1 : Blk (w2.alloc (.cells nf0 86)) w2.heap.size 86 nf0 := Blk.new _ _ _
  have u2 := u1.set nf0
  have hb12 := hb1.trans (hb2.mono hb1.size)
  have HB : Hid (Below w.heap.size w ((w2.alloc (.cells nf0 86)).setRow w2.heap.size nf0)) := below_setRow (hb12.alloc hb12.size _) hb12.size _
  clear hb1 hb2 hb12 H1
  go_wp2_with (first
    | (refine wpList_store_row (by rfl) 86 _ _ (by rfl) (w2.heap.size) (nf0) (by rfl) (by rfl) 86 (nf0) (by exact u1) (size_nf.trans (by rfl)) (by rfl) (nf_all _ _ _ _ _) ?_; simp only [Act.put, sgPHNaRMatch])
    | fail)
  go_ret3
  exact ⟨rfl, HB.out⟩
end
end Go.Proofs.YtojnlmfahgeidaaGreatDoor

namespace Go.Proofs.YtojnlmfahgeidaaGreatDoor
set_option maxRecDepth 20000
open Go Go.RowKit Go.Nam
set_option linter.unusedVariables false
set_option linter.unusedSimpArgs false

def boV (l : List Bool) : List Value := l.map Value.bool
theorem boV_at {l : List Bool} {i : Nat} {b : Bool} (h : l[i]? = some b) : (boV l)[i]? = some (.bool b) := by simp [boV, h]
theorem infoBool : (Tryz.prog.info? 4).map (fun i => (i.zero, i.size, i.bytes)) = some (some (.bool false), 1, 1) := by kernel_rfl
theorem kownBelow {w w' : World} {B e size n : Nat} {v : Value} {xs : List Value} (h : w.ownsRow B e size v n xs) (hb : Below w.heap.size w w') : w'.ownsRow B e size v n xs := by
  refine ⟨h.1, ?_⟩
  rcases h.2 with hn | ⟨g, cap, cur, rfl, hg, hgg, rest⟩
  · exact .inl hn
  · exact .inr ⟨g, cap, cur, rfl, hg, (hb.block g (Array.getElem?_eq_some_iff.1 hgg).1).trans hgg, rest⟩
theorem cell_at {w : World} {B g n cap : Nat} {xs : List Bool} {t : TypeId} (h : w.ownsRow B t 1 (.slice (some ⟨g, 0, none⟩) n cap) n (boV xs)) {i : Nat} {b : Bool} (hi : i < n) (hb : xs[i]? = some b) : w.cell? ⟨g, i, none⟩ = some (.bool b) := by
  rw [h.cellAt i (by omega), boV_at hb]
/-- one row: what it says of the beginnings of the text, as far as it goes -/
def RowP (P s : List UInt8) (k n : Nat) (r : List Bool) : Prop := r.length = n + 1 ∧ ∀ i b, r[i]? = some b → (b = true ↔ Mat (P.take k) (s.take i))
theorem RowP.zero (P s : List UInt8) (n : Nat) (hn : n ≤ s.length) : RowP P s 0 n (true :: List.replicate n false) := by
  refine ⟨by simp, fun i b h => ?_⟩
  rw [List.take_zero, Mat.nil_iff]
  cases i with
  | zero => simp at h; subst h; simp
  | succ i =>
    rw [List.getElem?_cons_succ, List.getElem?_replicate] at h
    split at h
    · rename_i hi
      cases h
      constructor
      · intro h; cases h
      · intro h; have := congrArg List.length h; rw [List.length_take, List.length_nil] at this; omega
    · cases h
theorem take_snoc {P : List UInt8} {k : Nat} {p : UInt8} (h : P[k]? = some p) : P.take (k + 1) = P.take k ++ [p] := by
  rw [List.take_add_one, h]; rfl
theorem RowP.first_star {P s : List UInt8} {k n : Nat} {r : List Bool} {x : Bool} (H : RowP P s k n r) (hp : P[k]? = some 42) (hx : r[0]? = some x) : RowP P s (k + 1) 0 [x] := by
  refine ⟨rfl, fun i b h => ?_⟩
  cases i with
  | zero => simp at h; subst h; rw [H.2 0 x hx, take_snoc hp, List.take_zero]; exact Mat.snoc_star_nil.symm
  | succ i => simp at h
theorem RowP.first_one {P s : List UInt8} {k : Nat} {p : UInt8} (hp : P[k]? = some p) (hn : p ≠ 42) : RowP P s (k + 1) 0 [false] := by
  refine ⟨rfl, fun i b h => ?_⟩
  cases i with
  | zero => simp at h; subst h; rw [take_snoc hp, List.take_zero]; simp [Mat.snoc_one_nil hn]
  | succ i => simp at h
theorem RowP.snoc {P s : List UInt8} {k n : Nat} {r : List Bool} {x : Bool} (H : RowP P s k n r) (hx : x = true ↔ Mat (P.take k) (s.take (n + 1))) : RowP P s k (n + 1) (r ++ [x]) := by
  refine ⟨by simp [H.1], fun i b h => ?_⟩
  by_cases hi : i < n + 1
  · rw [List.getElem?_append_left (by rw [H.1]; exact hi)] at h; exact H.2 i b h
  · have hi2 : i = n + 1 := by
      have := (List.getElem?_eq_some_iff.1 h).1
      rw [List.length_append, H.1] at this; simp at this; omega
    subst hi2
    rw [List.getElem?_append_right (by rw [H.1]; exact Nat.le_refl _), H.1, Nat.sub_self] at h
    simp at h; subst h; exact hx
theorem RowP.step_star {P s : List UInt8} {k n i : Nat} {r nx : List Bool} {x y : Bool} (H : RowP P s k n r) (G : RowP P s (k + 1) i nx) (hp : P[k]? = some 42) (hi : i < s.length) (hx : r[i + 1]? = some x) (hy : nx[i]? = some y) :
    RowP P s (k + 1) (i + 1) (nx ++ [x || y]) := by
  refine G.snoc ?_
  have h1 := G.2 i y hy
  rw [take_snoc hp] at h1 ⊢
  rw [Mat.snoc_star hi, ← H.2 (i + 1) x hx, ← h1]
  simp
theorem RowP.step_one {P s : List UInt8} {k n i : Nat} {r nx : List Bool} {x y : Bool} {p : UInt8} (H : RowP P s k n r) (G : RowP P s (k + 1) i nx) (hp : P[k]? = some p) (hn : p ≠ 42) {c : UInt8} (hi : s[i]? = some c) (hx : r[i]? = some x)
    (hy : y = true ↔ (p = 63 ∨ p = c)) : RowP P s (k + 1) (i + 1) (nx ++ [x && y]) := by
  refine G.snoc ?_
  obtain ⟨h1, h2⟩ := List.getElem?_eq_some_iff.1 hi
  rw [take_snoc hp, Mat.snoc_one hn h1, ← H.2 i x hx, h2, ← hy]
  simp
theorem RowP.there {P s : List UInt8} {k n : Nat} {r : List Bool} (H : RowP P s k n r) {i : Nat} (hi : i ≤ n) : ∃ b, r[i]? = some b :=
  ⟨_, List.getElem?_eq_getElem (by rw [H.1]; omega)⟩

section
variable (P s : ByteArray)
set_option maxHeartbeats 4000000 in
theorem rmatch_any (mb : Bool) (hmb : mb = true ↔ Mat P.data.toList s.data.toList) (hP : P.size ≤ 4611686018427387904) (hs : s.size < 140737488355328) (w : World) :
    Calls Tryz.prog 29 #[.string P, .string s] w fun e w' => e = .returned (.bool mb) ∧ Below w.heap.size w w' := by
  obtain ⟨i0, hi, hz0, hz1, hz2⟩ := info_parts infoBool
  have HMB : Hid (mb = true ↔ Mat P.data.toList s.data.toList) := hmb
  clear hmb
  have HPL : Hid (P.size = P.data.toList.length) := Lib.size_eq P
  have HSL : Hid (s.size = s.data.toList.length) := Lib.size_eq s
  have hb0 : Below w.heap.size w (w.alloc (.cells #[.bool true] 4)) := below_new1 _ _
  have HO0 : Hid ((w.alloc (.cells #[.bool true] 4)).ownsRow w.heap.size 4 1 (.slice (some ⟨w.heap.size, 0, none⟩) 1 1) 1 (boV (true :: List.replicate 0 false))) := World.ownsRow_lit w #[.bool true] 1 (Nat.le_refl _) (by decide) rfl
  go_enter Tryz.func29, Tryz.ntmps29
  go_wp2_with fail
  generalize w.alloc (.cells #[.bool true] 4) = w1 at *
  go_loopw [5, 6] (fun v5 v6 wr => Hid (∃ (i cap g : Nat), i ≤ s.size ∧ v5 = .slice (some ⟨g, 0, none⟩) (i + 1) cap ∧ v6 = .int .i64 (i : Int) ∧ wr.ownsRow w.heap.size 4 1 v5 (i + 1) (boV (true :: List.replicate i false)) ∧ Below w.heap.size w wr)) (fun _ v6 _ => s.size - (intOf v6).toNat)
  case atStart => exact ⟨0, 1, w.heap.size, by omega, rfl, rfl, HO0.out, hb0⟩
  case round =>
    obtain ⟨i, cap, g, hin, rfl, rfl, hown, hb⟩ := Hid.out hrel
    clear hrel HO0 hb0
    by_cases hlt : i < s.size
    · have j1 : (i : Int) < (s.size : Int) := by omega
      have hsz := hb.size
      have HOWN : Hid ((wr.alloc (.cells #[.bool false] 4)).ownsRow w.heap.size 4 1 (.slice (some ⟨g, 0, none⟩) (i + 1) cap) (i + 1) (boV (true :: List.replicate i false))) := hown.alloc _
      have HV2 := (hown.alloc (.cells #[.bool false] 4)).lt
      have hml : i + 1 + 1 ≤ maxLen := Nat.le_trans (by omega : i + 1 + 1 ≤ 140737488355328) (by decide)
      have hbA : Below w.heap.size w (wr.alloc (.cells #[.bool false] 4)) := hb.alloc hsz _
      clear hown hb
      go_wp2_with (first
        | (at_builtin; refine wpList_append_own _ rfl _ _ 141 rfl w.heap.size 4 i0 (.bool false) 1 1 Tryz.underlying141 hi hz0 hz1 hz2 rfl (by decide) _ _ _ rfl HOWN.out ⟨wr.heap.size, 0, none⟩ 1 1 [.bool false] rfl rfl (cell_one_new _ _ _) (by simp [Value.oneCell']) hml (by omega) (by simp; omega) ?_)
        | go_in)
      intro v' w2 hown' hgrow _
      have hb2 : Below w.heap.size w w2 := hbA.grown hgrow (by simp; omega) (fun q hq => (HV2 q hq).1)
      have hst : boV (true :: List.replicate i false) ++ [Value.bool false] = boV (true :: List.replicate (i + 1) false) := by
        rw [List.replicate_succ']; simp [boV]
      rw [hst] at hown'
      obtain ⟨g3, cap3, rfl, hg3, hg3'⟩ := kown_form hown' (Nat.succ_pos _)
      have HE : Hid (_ ∧ _) := ⟨hown', hb2⟩
      clear HOWN HV2 hgrow hbA hown' hb2 hst
      go_wp2_with fail
      go_roundw
      case rel => exact ⟨i + 1, cap3, g3, by omega, rfl, by first | rfl | go_num | simp, HE.out.1, HE.out.2⟩
      case measure => simp [intOf]; omega
    · obtain rfl : i = s.size := by omega
      have j1 : ¬ ((s.size : Int) < (s.size : Int)) := by omega
      have HE : Hid (_ ∧ _) := ⟨hown, hb⟩
      clear hown hb
      go_wp2_with fail
      go_loopw [5, 7] (fun v5 v7 wr => Hid (∃ (k cap g : Nat) (r : List Bool), k ≤ P.size ∧ v5 = .slice (some ⟨g, 0, none⟩) (s.size + 1) cap ∧ v7 = .int .i64 (k : Int) ∧ wr.ownsRow w.heap.size 4 1 v5 (s.size + 1) (boV r) ∧ RowP P.data.toList s.data.toList k s.size r ∧ Below w.heap.size w wr)) (fun _ v7 _ => P.size - (intOf v7).toNat)
      case atStart => exact ⟨0, cap, g, _, by omega, rfl, rfl, HE.out.1, RowP.zero _ _ _ (by rw [← HSL.out]; exact Nat.le_refl _), HE.out.2⟩
      case round =>
        obtain ⟨k, cap1, g1, r, hkP, rfl, rfl, hown, hrow, hb⟩ := Hid.out hrel
        rename World => W2
        clear hrel HE
        by_cases hk : k < P.size
        · have j2 : (k : Int) < (P.size : Int) := by omega
          obtain ⟨a, ha⟩ : ∃ a : UInt8, P[k]'hk = a := ⟨_, rfl⟩
          have HA : Hid (P.data.toList[k]? = some a) := by show P.data.toList[k]? = some a; rw [← ha]; exact Lib.data_getElem? P k hk
          obtain ⟨x0, hx0⟩ := hrow.there (Nat.zero_le _)
          have hc0 : W2.cell? ⟨g1, 0, none⟩ = some (.bool x0) := cell_at hown (by omega) hx0
          have HR : Hid (RowP P.data.toList s.data.toList k s.size r) := hrow
          have HBW : Hid (Below w.heap.size w W2) := hb
          have hbz := hb.size
          have HWR : Hid (∀ V : World, Below W2.heap.size W2 V → V.ownsRow w.heap.size 4 1 (.slice (some ⟨g1, 0, none⟩) (s.size + 1) cap1) (s.size + 1) (boV r)) := fun V hV => kownBelow hown hV
          clear hrow hb hown
          obtain ⟨y, HY, HG⟩ : ∃ y : Bool, Hid (y = if a = 42 then x0 else false) ∧ Hid (RowP P.data.toList s.data.toList (k + 1) 0 [y]) := by
            by_cases h42 : a = 42
            · exact ⟨x0, by show _ = _; rw [if_pos h42], HR.out.first_star (h42 ▸ HA.out) hx0⟩
            · exact ⟨false, by show _ = _; rw [if_neg h42], RowP.first_one HA.out h42⟩
          have HO1 : Hid ((W2.alloc (.cells #[.bool y] 4)).ownsRow W2.heap.size 4 1 (.slice (some ⟨W2.heap.size, 0, none⟩) 1 1) 1 (boV [y])) := World.ownsRow_lit W2 #[.bool y] 1 (Nat.le_refl _) (by decide) rfl
          have HB1 : Hid (Below W2.heap.size W2 (W2.alloc (.cells #[.bool y] 4))) := below_new1 _ _
          by_cases h42 : a = 42
          · obtain rfl : y = x0 := by rw [HY.out, if_pos h42]
            have hb1 : ((a.toNat : Int) == 42) = true := by rw [h42]; rfl
            have H42 : Hid (a = 42) := h42
            clear h42 HY
            go_wp2_with fail
            generalize W2.alloc (.cells #[.bool y] 4) = w1 at *
            go_loopw [8, 9] (fun v8 v9 wx => Hid (∃ (i cap g : Nat) (nx : List Bool), i ≤ s.size ∧ v8 = .slice (some ⟨g, 0, none⟩) (i + 1) cap ∧ v9 = .int .i64 (i : Int) ∧ wx.ownsRow W2.heap.size 4 1 v8 (i + 1) (boV nx) ∧ RowP P.data.toList s.data.toList (k + 1) i nx ∧ Below W2.heap.size W2 wx)) (fun _ v9 _ => s.size - (intOf v9).toNat)
            case atStart => exact ⟨0, 1, W2.heap.size, _, by omega, rfl, rfl, HO1.out, HG.out, HB1.out⟩
            case round =>
              obtain ⟨i, cap2, g2, nx, hin, rfl, rfl, hown, hnx, hb⟩ := Hid.out hrel
              clear hrel HO1 HB1 HG hc0 hx0
              by_cases hlt : i < s.size
              · have j3 : (i : Int) < (s.size : Int) := by omega
                obtain ⟨x, hx⟩ := HR.out.there (show i + 1 ≤ s.size by omega)
                obtain ⟨y2, hy⟩ := hnx.there (Nat.le_refl i)
                have hc1 : wr.cell? ⟨g1, i + 1, none⟩ = some (.bool x) := cell_at (HWR.out wr hb) (by omega) hx
                have hc2 : wr.cell? ⟨g2, i, none⟩ = some (.bool y2) := cell_at hown (by omega) hy
                have hsz := hb.size
                have HOWN : Hid ((wr.alloc (.cells #[.bool (x || y2)] 4)).ownsRow W2.heap.size 4 1 (.slice (some ⟨g2, 0, none⟩) (i + 1) cap2) (i + 1) (boV nx)) := hown.alloc _
                have HV2 := (hown.alloc (.cells #[.bool (x || y2)] 4)).lt
                have hml : i + 1 + 1 ≤ maxLen := Nat.le_trans (by omega : i + 1 + 1 ≤ 140737488355328) (by decide)
                have hbA : Below W2.heap.size W2 (wr.alloc (.cells #[.bool (x || y2)] 4)) := hb.alloc hsz _
                have HN : Hid (RowP P.data.toList s.data.toList (k + 1) (i + 1) (nx ++ [x || y2])) := HR.out.step_star hnx (H42.out ▸ HA.out) (by rw [← HSL.out]; exact hlt) hx hy
                clear hown hb hnx hx hy
                cases x
                · simp only [Bool.false_or] at HOWN HV2 hbA HN
                  go_wp2_with (first
                    | (at_builtin; refine wpList_append_own _ rfl _ _ 141 rfl W2.heap.size 4 i0 (.bool false) 1 1 Tryz.underlying141 hi hz0 hz1 hz2 rfl (by decide) _ _ _ rfl HOWN.out ⟨wr.heap.size, 0, none⟩ 1 1 [.bool y2] rfl rfl (cell_one_new _ _ _) (by simp [Value.oneCell']) hml (by omega) (by simp; omega) ?_)
                    | go_in)
                  intro v' w2 hown' hgrow _
                  have hb2 : Below W2.heap.size W2 w2 := hbA.grown hgrow (by simp; omega) (fun q hq => (HV2 q hq).1)
                  rw [show boV nx ++ [Value.bool y2] = boV (nx ++ [y2]) from by simp [boV]] at hown'
                  obtain ⟨g3, cap3, rfl, hg3, hg3'⟩ := kown_form hown' (Nat.succ_pos _)
                  have HE : Hid (_ ∧ _) := ⟨hown', hb2⟩
                  clear HOWN HV2 hgrow hbA hown' hb2
                  go_wp2_with fail
                  go_roundw
                  case rel => exact ⟨i + 1, cap3, g3, _, by omega, rfl, by first | rfl | go_num | simp, HE.out.1, HN.out, HE.out.2⟩
                  case measure => simp [intOf]; omega
                · simp only [Bool.true_or] at HOWN HV2 hbA HN
                  go_wp2_with (first
                    | (at_builtin; refine wpList_append_own _ rfl _ _ 141 rfl W2.heap.size 4 i0 (.bool false) 1 1 Tryz.underlying141 hi hz0 hz1 hz2 rfl (by decide) _ _ _ rfl HOWN.out ⟨wr.heap.size, 0, none⟩ 1 1 [.bool true] rfl rfl (cell_one_new _ _ _) (by simp [Value.oneCell']) hml (by omega) (by simp; omega) ?_)
                    | go_in)
                  intro v' w2 hown' hgrow _
                  have hb2 : Below W2.heap.size W2 w2 := hbA.grown hgrow (by simp; omega) (fun q hq => (HV2 q hq).1)
                  rw [show boV nx ++ [Value.bool true] = boV (nx ++ [true]) from by simp [boV]] at hown'
                  obtain ⟨g3, cap3, rfl, hg3, hg3'⟩ := kown_form hown' (Nat.succ_pos _)
                  have HE : Hid (_ ∧ _) := ⟨hown', hb2⟩
                  clear HOWN HV2 hgrow hbA hown' hb2
                  go_wp2_with fail
                  go_roundw
                  case rel => exact ⟨i + 1, cap3, g3, _, by omega, rfl, by first | rfl | go_num | simp, HE.out.1, HN.out, HE.out.2⟩
                  case measure => simp [intOf]; omega
              · obtain rfl : i = s.size := by omega
                have j3 : ¬ ((s.size : Int) < (s.size : Int)) := by omega
                have HE : Hid (_ ∧ _ ∧ _) := ⟨hown, hnx, hb⟩
                clear hown hb hnx
                go_wp2_with fail
                go_roundw
                case rel => exact ⟨k + 1, cap2, g2, nx, by omega, rfl, by first | rfl | go_num | simp, kown_mono HE.out.1 hbz, HE.out.2.1, HBW.out.trans (HE.out.2.2.mono hbz)⟩
                case measure => simp [intOf]; omega
          · obtain rfl : y = false := by rw [HY.out, if_neg h42]
            have hb1 : ((a.toNat : Int) == 42) = false := beq_ne h42
            have H42 : Hid (a ≠ 42) := h42
            clear h42 HY
            go_wp2_with fail
            generalize W2.alloc (.cells #[.bool false] 4) = w1 at *
            go_loopw [8, 9] (fun v8 v9 wx => Hid (∃ (i cap g : Nat) (nx : List Bool), i ≤ s.size ∧ v8 = .slice (some ⟨g, 0, none⟩) (i + 1) cap ∧ v9 = .int .i64 (i : Int) ∧ wx.ownsRow W2.heap.size 4 1 v8 (i + 1) (boV nx) ∧ RowP P.data.toList s.data.toList (k + 1) i nx ∧ Below W2.heap.size W2 wx)) (fun _ v9 _ => s.size - (intOf v9).toNat)
            case atStart => exact ⟨0, 1, W2.heap.size, _, by omega, rfl, rfl, HO1.out, HG.out, HB1.out⟩
            case round =>
              obtain ⟨i, cap2, g2, nx, hin, rfl, rfl, hown, hnx, hb⟩ := Hid.out hrel
              clear hrel HO1 HB1 HG hc0 hx0
              by_cases hlt : i < s.size
              · have j3 : (i : Int) < (s.size : Int) := by omega
                obtain ⟨c, hc⟩ : ∃ c : UInt8, s[i]'hlt = c := ⟨_, rfl⟩
                have HC : Hid (s.data.toList[i]? = some c) := by show s.data.toList[i]? = some c; rw [← hc]; exact Lib.data_getElem? s i hlt
                obtain ⟨x, hx⟩ := HR.out.there (show i ≤ s.size by omega)
                have hc1 : wr.cell? ⟨g1, i, none⟩ = some (.bool x) := cell_at (HWR.out wr hb) (by omega) hx
                have hsz := hb.size
                obtain ⟨z, HZ⟩ : ∃ z : Bool, Hid (z = (x && (a == 63 || a == c))) := ⟨_, rfl⟩
                have HOWN : Hid ((wr.alloc (.cells #[.bool z] 4)).drew.ownsRow W2.heap.size 4 1 (.slice (some ⟨g2, 0, none⟩) (i + 1) cap2) (i + 1) (boV nx)) := (hown.alloc _).drew
                have HV2 := (hown.alloc (.cells #[.bool z] 4)).drew.lt
                have hml : i + 1 + 1 ≤ maxLen := Nat.le_trans (by omega : i + 1 + 1 ≤ 140737488355328) (by decide)
                have hbA : Below W2.heap.size W2 (wr.alloc (.cells #[.bool z] 4)).drew := (hb.alloc hsz _).drew
                have HN : Hid (RowP P.data.toList s.data.toList (k + 1) (i + 1) (nx ++ [z])) := HZ.out ▸ HR.out.step_one hnx HA.out H42.out HC.out hx (by simp)
                clear hown hb hnx hx
                have hu1 : (undef = Value.bool false) = False := eq_false (by intro h; cases h)
                have hu2 : (undef = Value.bool true) = False := eq_false (by intro h; cases h)
                cases x
                · obtain rfl : z = false := HZ.out
                  clear HZ
                  go_wp2_with fail
                  refine wp_region_partsS (fun _ => True) [([0, 1, 2, 3], 4, false), ([5, 6, 7], 8, false), ([], 9, false), ([10, 11, 12, 14, 15], 13, true), ([], 16, false), ([], 17, false), ([18, 19], 20, false), ([], 21, false)] [22] [] (by kernel_rfl) (by kernel_rfl) trivial (partsI_force ?_)
                  simp only [sgLHNaRMatch]
                  go_wp2_with fail
                  refine ⟨rfl, trivial, partsI_force ?_⟩
                  simp only [sgLHNaRMatch]
                  go_wp2_with fail
                  refine ⟨rfl, trivial, partsI_force ?_⟩
                  simp only [sgLHNaRMatch]
                  go_wp2_with fail
                  refine ⟨rfl, trivial, partsI_yield ?_⟩
                  simp only [sgLHNaRMatch]
                  go_wp2_with fail
                  refine ⟨rfl, _, undef, rfl, Or.inr ⟨by rfl, rfl⟩, partsI_force ?_⟩
                  simp only [Act.put, sgPHNaRMatch]
                  simp only [sgLHNaRMatch]
                  go_wp2_with fail
                  refine ⟨rfl, trivial, partsI_force ?_⟩
                  simp only [sgLHNaRMatch]
                  go_wp2_with fail
                  refine ⟨rfl, trivial, partsI_force ?_⟩
                  simp only [sgLHNaRMatch]
                  go_wp2_with fail
                  refine ⟨rfl, trivial, partsI_force ?_⟩
                  simp only [sgLHNaRMatch]
                  refine wpList_append_own _ rfl _ _ 141 rfl W2.heap.size 4 i0 (.bool false) 1 1 Tryz.underlying141 hi hz0 hz1 hz2 rfl (by decide) _ _ _ rfl HOWN.out ⟨wr.heap.size, 0, none⟩ 1 1 [.bool false] rfl rfl (fun j u h => cell_one_new wr _ _ j u h) (by simp [Value.oneCell']) hml (by omega) (by simp; omega) ?_
                  intro v' w2 hown' hgrow _
                  have hb2 : Below W2.heap.size W2 w2 := hbA.grown hgrow (by simp; omega) (fun q hq => (HV2 q hq).1)
                  rw [show boV nx ++ [Value.bool false] = boV (nx ++ [false]) from by simp [boV]] at hown'
                  obtain ⟨g3, cap3, rfl, hg3, hg3'⟩ := kown_form hown' (Nat.succ_pos _)
                  have HE : Hid (_ ∧ _) := ⟨hown', hb2⟩
                  clear HOWN HV2 hgrow hbA hown' hb2
                  simp only [Act.put, sgPHNaRMatch]
                  refine ⟨rfl, trivial, partsI_last ?_⟩
                  simp only [sgLHNaRMatch]
                  go_wp2_with fail
                  refine ⟨rfl, ?_⟩
                  go_wp2_with fail
                  go_roundw
                  case rel => exact ⟨i + 1, cap3, g3, _, by omega, rfl, by first | rfl | go_num | simp, HE.out.1, HN.out, HE.out.2⟩
                  case measure => simp [intOf]; omega
                · by_cases h63 : a = 63
                  · obtain rfl : z = true := by rw [HZ.out, h63]; rfl
                    have hb3 : ((a.toNat : Int) == 63) = true := by rw [h63]; rfl
                    clear HZ h63
                    go_wp2_with fail
                    refine wp_region_partsS (fun _ => True) [([0, 1, 2, 3], 4, false), ([5, 6, 7], 8, false), ([], 9, false), ([10, 11, 12, 14, 15], 13, true), ([], 16, false), ([], 17, false), ([18, 19], 20, false), ([], 21, false)] [22] [] (by kernel_rfl) (by kernel_rfl) trivial (partsI_force ?_)
                    simp only [sgLHNaRMatch]
                    go_wp2_with fail
                    refine ⟨rfl, trivial, partsI_force ?_⟩
                    simp only [sgLHNaRMatch]
                    go_wp2_with fail
                    refine ⟨rfl, trivial, partsI_force ?_⟩
                    simp only [sgLHNaRMatch]
                    go_wp2_with fail
                    refine ⟨rfl, trivial, partsI_yield ?_⟩
                    simp only [sgLHNaRMatch]
                    go_wp2_with fail
                    refine ⟨rfl, _, undef, rfl, Or.inr ⟨by rfl, rfl⟩, partsI_force ?_⟩
                    simp only [Act.put, sgPHNaRMatch]
                    simp only [sgLHNaRMatch]
                    go_wp2_with fail
                    refine ⟨rfl, trivial, partsI_force ?_⟩
                    simp only [sgLHNaRMatch]
                    go_wp2_with fail
                    refine ⟨rfl, trivial, partsI_force ?_⟩
                    simp only [sgLHNaRMatch]
                    go_wp2_with fail
                    refine ⟨rfl, trivial, partsI_force ?_⟩
                    simp only [sgLHNaRMatch]
                    refine wpList_append_own _ rfl _ _ 141 rfl W2.heap.size 4 i0 (.bool false) 1 1 Tryz.underlying141 hi hz0 hz1 hz2 rfl (by decide) _ _ _ rfl HOWN.out ⟨wr.heap.size, 0, none⟩ 1 1 [.bool true] rfl rfl (fun j u h => cell_one_new wr _ _ j u h) (by simp [Value.oneCell']) hml (by omega) (by simp; omega) ?_
                    intro v' w2 hown' hgrow _
                    have hb2 : Below W2.heap.size W2 w2 := hbA.grown hgrow (by simp; omega) (fun q hq => (HV2 q hq).1)
                    rw [show boV nx ++ [Value.bool true] = boV (nx ++ [true]) from by simp [boV]] at hown'
                    obtain ⟨g3, cap3, rfl, hg3, hg3'⟩ := kown_form hown' (Nat.succ_pos _)
                    have HE : Hid (_ ∧ _) := ⟨hown', hb2⟩
                    clear HOWN HV2 hgrow hbA hown' hb2
                    simp only [Act.put, sgPHNaRMatch]
                    refine ⟨rfl, trivial, partsI_last ?_⟩
                    simp only [sgLHNaRMatch]
                    go_wp2_with fail
                    refine ⟨rfl, ?_⟩
                    go_wp2_with fail
                    go_roundw
                    case rel => exact ⟨i + 1, cap3, g3, _, by omega, rfl, by first | rfl | go_num | simp, HE.out.1, HN.out, HE.out.2⟩
                    case measure => simp [intOf]; omega
                  · have hb3 : ((a.toNat : Int) == 63) = false := beq_ne h63
                    by_cases hac : a = c
                    · obtain rfl : z = true := by rw [HZ.out, hac]; simp
                      have hb4 : ((a.toNat : Int) == (c.toNat : Int)) = true := by rw [hac]; simp
                      clear HZ h63 hac
                      go_wp2_with fail
                      refine wp_region_partsS (fun _ => True) [([0, 1, 2, 3], 4, false), ([5, 6, 7], 8, false), ([], 9, false), ([10, 11, 12, 14, 15], 13, true), ([], 16, false), ([], 17, false), ([18, 19], 20, false), ([], 21, false)] [22] [] (by kernel_rfl) (by kernel_rfl) trivial (partsI_force ?_)
                      simp only [sgLHNaRMatch]
                      go_wp2_with fail
                      refine ⟨rfl, trivial, partsI_force ?_⟩
                      simp only [sgLHNaRMatch]
                      go_wp2_with fail
                      refine ⟨rfl, trivial, partsI_force ?_⟩
                      simp only [sgLHNaRMatch]
                      go_wp2_with fail
                      refine ⟨rfl, trivial, partsI_yield ?_⟩
                      simp only [sgLHNaRMatch]
                      go_wp2_with fail
                      refine ⟨rfl, _, .int .u8 (a.toNat : Int), rfl, Or.inl ⟨by rfl, fun W hW => by go_simp⟩, partsI_force ?_⟩
                      simp only [Act.put, sgPHNaRMatch]
                      simp only [sgLHNaRMatch]
                      go_wp2_with fail
                      refine ⟨rfl, trivial, partsI_force ?_⟩
                      simp only [sgLHNaRMatch]
                      go_wp2_with fail
                      refine ⟨rfl, trivial, partsI_force ?_⟩
                      simp only [sgLHNaRMatch]
                      go_wp2_with fail
                      refine ⟨rfl, trivial, partsI_force ?_⟩
                      simp only [sgLHNaRMatch]
                      refine wpList_append_own _ rfl _ _ 141 rfl W2.heap.size 4 i0 (.bool false) 1 1 Tryz.underlying141 hi hz0 hz1 hz2 rfl (by decide) _ _ _ rfl HOWN.out ⟨wr.heap.size, 0, none⟩ 1 1 [.bool true] rfl rfl (fun j u h => cell_one_new wr _ _ j u h) (by simp [Value.oneCell']) hml (by omega) (by simp; omega) ?_
                      intro v' w2 hown' hgrow _
                      have hb2 : Below W2.heap.size W2 w2 := hbA.grown hgrow (by simp; omega) (fun q hq => (HV2 q hq).1)
                      rw [show boV nx ++ [Value.bool true] = boV (nx ++ [true]) from by simp [boV]] at hown'
                      obtain ⟨g3, cap3, rfl, hg3, hg3'⟩ := kown_form hown' (Nat.succ_pos _)
                      have HE : Hid (_ ∧ _) := ⟨hown', hb2⟩
                      clear HOWN HV2 hgrow hbA hown' hb2
                      simp only [Act.put, sgPHNaRMatch]
                      refine ⟨rfl, trivial, partsI_last ?_⟩
                      simp only [sgLHNaRMatch]
                      go_wp2_with fail
                      refine ⟨rfl, ?_⟩
                      go_wp2_with fail
                      go_roundw
                      case rel => exact ⟨i + 1, cap3, g3, _, by omega, rfl, by first | rfl | go_num | simp, HE.out.1, HN.out, HE.out.2⟩
                      case measure => simp [intOf]; omega
                    · obtain rfl : z = false := by rw [HZ.out]; simp [h63, hac]
                      have hb4 : ((a.toNat : Int) == (c.toNat : Int)) = false := beq_ne hac
                      clear HZ h63 hac
                      go_wp2_with fail
                      refine wp_region_partsS (fun _ => True) [([0, 1, 2, 3], 4, false), ([5, 6, 7], 8, false), ([], 9, false), ([10, 11, 12, 14, 15], 13, true), ([], 16, false), ([], 17, false), ([18, 19], 20, false), ([], 21, false)] [22] [] (by kernel_rfl) (by kernel_rfl) trivial (partsI_force ?_)
                      simp only [sgLHNaRMatch]
                      go_wp2_with fail
                      refine ⟨rfl, trivial, partsI_force ?_⟩
                      simp only [sgLHNaRMatch]
                      go_wp2_with fail
                      refine ⟨rfl, trivial, partsI_force ?_⟩
                      simp only [sgLHNaRMatch]
                      go_wp2_with fail
                      refine ⟨rfl, trivial, partsI_yield ?_⟩
                      simp only [sgLHNaRMatch]
                      go_wp2_with fail
                      refine ⟨rfl, _, .int .u8 (a.toNat : Int), rfl, Or.inl ⟨by rfl, fun W hW => by go_simp⟩, partsI_force ?_⟩
                      simp only [Act.put, sgPHNaRMatch]
                      simp only [sgLHNaRMatch]
                      go_wp2_with fail
                      refine ⟨rfl, trivial, partsI_force ?_⟩
                      simp only [sgLHNaRMatch]
                      go_wp2_with fail
                      refine ⟨rfl, trivial, partsI_force ?_⟩
                      simp only [sgLHNaRMatch]
                      go_wp2_with fail
                      refine ⟨rfl, trivial, partsI_force ?_⟩
                      simp only [sgLHNaRMatch]
                      refine wpList_append_own _ rfl _ _ 141 rfl W2.heap.size 4 i0 (.bool false) 1 1 Tryz.underlying141 hi hz0 hz1 hz2 rfl (by decide) _ _ _ rfl HOWN.out ⟨wr.heap.size, 0, none⟩ 1 1 [.bool false] rfl rfl (fun j u h => cell_one_new wr _ _ j u h) (by simp [Value.oneCell']) hml (by omega) (by simp; omega) ?_
                      intro v' w2 hown' hgrow _
                      have hb2 : Below W2.heap.size W2 w2 := hbA.grown hgrow (by simp; omega) (fun q hq => (HV2 q hq).1)
                      rw [show boV nx ++ [Value.bool false] = boV (nx ++ [false]) from by simp [boV]] at hown'
                      obtain ⟨g3, cap3, rfl, hg3, hg3'⟩ := kown_form hown' (Nat.succ_pos _)
                      have HE : Hid (_ ∧ _) := ⟨hown', hb2⟩
                      clear HOWN HV2 hgrow hbA hown' hb2
                      simp only [Act.put, sgPHNaRMatch]
                      refine ⟨rfl, trivial, partsI_last ?_⟩
                      simp only [sgLHNaRMatch]
                      go_wp2_with fail
                      refine ⟨rfl, ?_⟩
                      go_wp2_with fail
                      go_roundw
                      case rel => exact ⟨i + 1, cap3, g3, _, by omega, rfl, by first | rfl | go_num | simp, HE.out.1, HN.out, HE.out.2⟩
                      case measure => simp [intOf]; omega
              · obtain rfl : i = s.size := by omega
                have j3 : ¬ ((s.size : Int) < (s.size : Int)) := by omega
                have HE : Hid (_ ∧ _ ∧ _) := ⟨hown, hnx, hb⟩
                clear hown hb hnx
                go_wp2_with fail
                go_roundw
                case rel => exact ⟨k + 1, cap2, g2, nx, by omega, rfl, by first | rfl | go_num | simp, kown_mono HE.out.1 hbz, HE.out.2.1, HBW.out.trans (HE.out.2.2.mono hbz)⟩
                case measure => simp [intOf]; omega
        · obtain rfl : k = P.size := by omega
          have j2 : ¬ ((P.size : Int) < (P.size : Int)) := by omega
          obtain ⟨x, hx⟩ := hrow.there (Nat.le_refl _)
          have hc0 : W2.cell? ⟨g1, s.size, none⟩ = some (.bool x) := cell_at hown (by omega) hx
          obtain rfl : x = mb := by
            have := hrow.2 _ _ hx
            rw [HPL.out, HSL.out, List.take_length, List.take_length] at this
            exact Bool.eq_iff_iff.2 (this.trans HMB.out.symm)
          have HB : Hid (Below w.heap.size w W2) := hb
          clear hown hrow hb
          go_wp2_with fail
          go_ret
          exact ⟨rfl, HB.out⟩
end
end Go.Proofs.YtojnlmfahgeidaaGreatDoor
