/- strings.Cut at a slash; the parts of a text as a range over a function takes them. -/
import Derived.Test.YtimjggkdpmgpjaaGreatDoorHFiBT
import Derived.Test.YtimjggkdpmgpjaaGreatDoorHFiChain
import Derived.Handy
import Derived.Test.YtimjggkdpmgpjaaGreatDoorHCollKit
import Derived.Test.YtimjggkdpmgpjaaGreatDoorHDkWrite
import Derived.Deep.MidRow
import Derived.Test.YtimjggkdpmgpjaaGreatDoorHOrders
import Derived.Shelf.Strings.Prefix
import Derived.Shelf.Strings.Search2
import Derived.Test.YtimjggkdpmgpjaaGreatDoorProg
import Derived.Test.YtimjggkdpmgpjaaGreatDoorHDiSortM
import Derived.Test.YtimjggkdpmgpjaaGreatDoorHMath
import Derived.OrdersIn
import Derived.TacticsInMore
import Derived.RangeFuncCalls
import Derived.RangeFuncNested
import Derived.Shelf.RegionOpenPlain
import Derived.RangeFuncBound
import Derived.RangeFuncLeaves
import Derived.RangeFuncBox
import Derived.RangeFuncFrom
import Derived.Shelf.Abstract
import Derived.Shelf.RegionOpen
import Derived.WalkKit
import Derived.OwnWalkIn
import Derived.LoopNIn
import Derived.LoopIn

namespace Go.Proofs.YtimjggkdpmgpjaaGreatDoor
open Go Go.RowKit
set_option linter.unusedSimpArgs false
set_option linter.unusedVariables false
/-- a slice of texts -/
def IsNm (w : World) (a : Option Addr) (n : Nat) (nm : Nat → ByteArray) : Prop := ∀ j, j < n → ∃ b o, a = some ⟨b, o, none⟩ ∧ b < w.heap.size ∧ w.cell? ⟨b, o + j, none⟩ = some (.string (nm j))
theorem IsNm.below {w w' : World} {a : Option Addr} {n : Nat} {nm : Nat → ByteArray} (h : IsNm w a n nm) (hb : Below w.heap.size w w') : IsNm w' a n nm := fun j hj => by
  obtain ⟨b, o, h1, h2, h3⟩ := h j hj
  exact ⟨b, o, h1, Nat.lt_of_lt_of_le h2 hb.size, (hb.cell (p := ⟨b, o + j, none⟩) h2).trans h3⟩
/-- what Walk answers -/
noncomputable def wkW (F : Fo) (nm : Nat → ByteArray) (n : Nat) : Int := if wkR F nm n = 0 then ((wkA F nm n : Nat) : Int) else 0
theorem wkE_zero {F : Fo} {nm : Nat → ByteArray} {i : Nat} (h : wkE F nm i = 0) : F.dr (wkA F nm i) = true ∧ wkP F nm i < F.K (wkA F nm i) := by
  unfold wkE at h
  by_cases c : F.dr (wkA F nm i) = true
  · rw [if_pos c] at h
    by_cases c2 : wkP F nm i < F.K (wkA F nm i)
    · exact ⟨c, c2⟩
    · rw [if_neg c2] at h
      exact absurd h (by decide)
  · rw [if_neg c] at h
    exact absurd h (by decide)
section
variable {w w' : World} {B0 x mf ml mc all : Nat} {cp : Option Addr} {F : Fo}
theorem BI.wkN (h : BI w B0 x mf ml mc cp all F 0) {nm : Nat → ByteArray} {i : Nat} (hw : wkE F nm i = 0) : F.N (wkA F nm i) (wkP F nm i) = ((wkA F nm (i + 1) : Nat) : Int) ∧ 1 ≤ wkA F nm (i + 1) ∧ wkA F nm (i + 1) ≤ all := by
  obtain ⟨h1, h2⟩ := wkE_zero hw
  have h3 := h.en _ h1 _ h2
  rw [wkA_succ]
  omega
theorem BI.wkIn (h : BI w B0 x mf ml mc cp all F 0) {nm : Nat → ByteArray} : ∀ i, feE F nm i = 0 → 1 ≤ wkA F nm i ∧ wkA F nm i ≤ all
  | 0, _ => by have := h.al; exact ⟨Nat.le_refl _, this.1⟩
  | i + 1, hf => by
    have h0 := feE_none hf i (by omega)
    rw [feE_step h0] at hf
    exact (h.wkN hf).2
theorem BI.findW (h : BI w B0 x mf ml mc cp all F 0) {nm : Nat → ByteArray} {n i : Nat} (hi : i < n) (hna : naE nm n = 0) (hf : feE F nm i = 0) :
    Calls Tryz.prog 63 #[.pointer (some ⟨x, 0, none⟩), .int .i64 ((wkA F nm i : Nat) : Int), .string (nm i)] w fun e w' => ∃ r0 r1 : Int, e = .returned (.tuple #[.int .i64 r0, .int .i64 r1, .int .i64 (wkE F nm i)]) ∧ (wkE F nm i = 0 → r0 = ((wkA F nm (i + 1) : Nat) : Int) ∧ r1 = ((wkP F nm i : Nat) : Int)) ∧ Below w.heap.size w w' := by
  refine (h.find (wkA F nm i) (h.wkIn i hf) (nm i) (naE_each hna i hi) _ _ (wkE F nm i) rfl rfl rfl).mono ?_
  rintro e w' ⟨rfl, hb⟩
  refine ⟨_, _, rfl, fun h0 => ?_, hb⟩
  obtain ⟨h1, h2⟩ := wkE_zero h0
  have h3 := h.wkN h0
  rw [if_pos h1, if_pos h1]
  have h2' : fiN (F.S (wkA F nm i)) (F.K (wkA F nm i)) (nm i) < F.K (wkA F nm i) := h2
  rw [if_pos h2', if_pos h2']
  exact ⟨h3.1, rfl⟩
end
theorem wkR_four (F : Fo) (nm : Nat → ByteArray) (n : Nat) : wkR F nm n = 0 ∨ wkR F nm n = 130 ∨ wkR F nm n = 170 ∨ wkR F nm n = 171 := by
  have h1 : ∀ n, naE nm n = 0 ∨ naE nm n = 130 := fun n => by
    induction n with
    | zero => exact .inl rfl
    | succ n ih =>
      rcases ih with h | h
      · rw [naE_step h]
        exact nameE_two _
      · refine .inr ?_
        rw [naE_stay (i := n) (by rw [h]; decide) (n + 1) (by omega), h]
  have h2 : ∀ n, feE F nm n = 0 ∨ feE F nm n = 170 ∨ feE F nm n = 171 := fun n => by
    induction n with
    | zero => exact .inl rfl
    | succ n ih =>
      by_cases c : feE F nm n = 0
      · rw [feE_step c]
        exact wkE_three F nm n
      · rw [feE_stay c (n + 1) (by omega)]
        exact ih
  unfold wkR
  by_cases c : naE nm n = 0
  · rw [if_pos c]
    rcases h2 n with h | h | h
    · exact .inl h
    · exact .inr (.inr (.inl h))
    · exact .inr (.inr (.inr h))
  · rw [if_neg c]
    rcases h1 n with h | h
    · exact absurd h c
    · exact .inr (.inl h)
set_option maxRecDepth 100000 in
set_option maxHeartbeats 4000000 in
theorem walk1_fn (A1 P1 bx : Nat) (old : Value) (w : World) (h : Blk w bx 3 #[old]) : Calls Tryz.prog 32 #[.int .i64 (A1 : Int), .int .i64 (P1 : Int), .pointer (some ⟨bx, 0, none⟩)] w fun e w' => e = .returned (.tuple #[]) ∧ w' = w.setCell ⟨bx, 0, none⟩ (.int .i64 (A1 : Int)) := by
  have c0 := (h.cell 0).trans rfl
  have f0 := h.frozen 0
  go_enter Tryz.func32, Tryz.ntmps32
  go_wp2_with fail
  first
    | refine bodyPost_end (results_none Tryz.results32 _ _ _) rfl ?_
    | refine bodyPost_ret (results_none Tryz.results32 _ _ _) rfl ?_
  exact ⟨rfl, rfl⟩
section
variable {w w' : World} {B0 x mf ml mc all : Nat} {cp : Option Addr} {F : Fo}
set_option maxRecDepth 100000 in
set_option maxHeartbeats 4000000 in
theorem BI.fwalk (h : BI w B0 x mf ml mc cp all F 0) (a : Option Addr) (n c : Nat) (hn : n ≤ 9223372036854775807) (nm : Nat → ByteArray) (hN : IsNm w a n nm) : Calls Tryz.prog 15 #[.pointer (some ⟨x, 0, none⟩), .slice a n c] w fun e w' => e = .returned (.tuple #[.int .i64 (wkW F nm n), .int .i64 (wkR F nm n)]) ∧ Below w.heap.size w w' := by
  have b1 : Blk (w.alloc (.cells #[.int .i64 1] 3)) w.heap.size 3 #[.int .i64 1] := Blk.new _ _ _
  have hb1 : Below w.heap.size w (w.alloc (.cells #[.int .i64 1] 3)) := below_new1 _ _
  have HA : Hid (Calls Tryz.prog 31 #[.pointer (some ⟨x, 0, none⟩), .slice a n c, .func (.func 32) #[] #[.pointer (some ⟨w.heap.size, 0, none⟩)]] (w.alloc (.cells #[.int .i64 1] 3)) fun e w' => e = .returned (.int .i64 (wkR F nm n)) ∧ ∃ i, i ≤ n ∧ (wkR F nm n = 0 → i = n) ∧ Blk w' w.heap.size 3 #[.int .i64 ((wkA F nm i : Nat) : Int)] ∧ Below w.heap.size w w') :=
    along1_any x a n c hn 32 w.heap.size F nm (w.alloc (.cells #[.int .i64 1] 3)) (fun i V => Blk V w.heap.size 3 #[.int .i64 ((wkA F nm i : Nat) : Int)] ∧ Below w.heap.size w V) (enters_of Tryz.func32 (by kernel_rfl) rfl)
      (fun i V hV j hj => by obtain ⟨b, o, h1, h2, h3⟩ := (hN.below hV.2) j hj; exact ⟨b, o, h1, h3⟩)
      (fun i V V' hV hb => ⟨hV.1.below hb hV.1.lt, hV.2.trans (hb.mono hV.2.size)⟩)
      (fun i V hi hna hf hV => (h.below hV.2).findW hi hna hf)
      (fun i V hi hna hf hw hV => (walk1_fn (wkA F nm (i + 1)) (wkP F nm i) w.heap.size _ V hV.1).mono fun e w' he => ⟨he.1, by
        rw [he.2]
        exact ⟨by have := hV.1.put 0 (.int .i64 ((wkA F nm (i + 1) : Nat) : Int)); exact this, hV.2.setCell (p := ⟨w.heap.size, 0, none⟩) (Nat.le_refl _) _⟩⟩)
      ⟨b1, hb1⟩
  have HR := wkR_four F nm n
  have HW : Hid ((wkR F nm n = 0 → wkW F nm n = ((wkA F nm n : Nat) : Int)) ∧ (wkR F nm n ≠ 0 → wkW F nm n = 0)) := ⟨fun h0 => by unfold wkW; rw [if_pos h0], fun h0 => by unfold wkW; rw [if_neg h0]⟩
  have c0 := (b1.cell 0).trans rfl
  clear h hN hb1 b1
  generalize wkW F nm n = WW at HW ⊢
  generalize wkR F nm n = RR at HA HR HW ⊢
  go_enter Tryz.func15, Tryz.ntmps15
  go_wp2_with fail
  generalize (w.alloc (.cells #[.int .i64 1] 3)) = w1 at *
  refine HA.out.mono ?_
  rintro e w2 ⟨rfl, i, hi, hin, hB, hb⟩
  have HB : Hid (Below w.heap.size w w2) := hb
  clear HA hb c0
  by_cases h0 : RR = 0
  · have hW := HW.out.1 h0
    have hi2 := hin h0
    subst hi2
    subst h0
    have c1 := (hB.cell 0).trans rfl
    rw [← hW] at c1
    clear HW hB HR hin hW
    go_wp2_with fail
    go_ret2
    exact ⟨rfl, HB.out⟩
  · have hW := HW.out.2 h0
    subst hW
    clear HW hB hin
    rcases HR with hz | rfl | rfl | rfl
    · exact absurd hz h0
    all_goals
      clear h0
      go_wp2_with fail
      go_ret2
      exact ⟨rfl, HB.out⟩
end
end Go.Proofs.YtimjggkdpmgpjaaGreatDoor

namespace Go.Proofs.YtimjggkdpmgpjaaGreatDoor
open Go Go.RowKit
set_option linter.unusedSimpArgs false
set_option linter.unusedVariables false
theorem st_nil (P : Program) (w : World) (a : Addr) (m : Mode) : (store a .nilFunc m).run P w = stored P w a .nilFunc m := run_store P w a _ m rfl
theorem st_fun (P : Program) (w : World) (a : Addr) (m : Mode) (f : Fn) (b c : Array Value) : (store a (.func f b c) m).run P w = stored P w a (.func f b c) m := run_store P w a _ m rfl
attribute [local go_sem] st_nil st_fun
theorem pt_zero (w : World) : (zeroValue 88).run Tryz.prog w = .ok (.agg #[.slice none 0 0, .bool false]) w := di_zero (by kernel_rfl) w
end Go.Proofs.YtimjggkdpmgpjaaGreatDoor

namespace Go.Proofs.YtimjggkdpmgpjaaGreatDoor
open Go Go.RowKit
set_option linter.unusedVariables false
set_option linter.unusedSimpArgs false
/-- a text of these bytes -/
def bsL (l : List UInt8) : ByteArray := ⟨l.toArray⟩
theorem bsL_data (l : List UInt8) : (bsL l).data.toList = l := by simp [bsL]
theorem bsL_of (s : ByteArray) : bsL s.data.toList = s := by cases s; simp [bsL]
theorem bsL_size (l : List UInt8) : (bsL l).size = l.length := by rw [Lib.size_eq, bsL_data]
theorem ba_ext {a b : ByteArray} (h : a.data.toList = b.data.toList) : a = b := by rw [← bsL_of a, h, bsL_of]
/-- the bytes from a place up to the next slash -/
def segL (l : List UInt8) (i : Nat) : List UInt8 := (l.drop i).takeWhile (fun b => b != 47)
theorem segL_drop (l : List UInt8) (i j : Nat) : segL (l.drop i) j = segL l (i + j) := by
  unfold segL
  rw [List.drop_drop]
theorem segL_le (l : List UInt8) (i : Nat) : (segL l i).length ≤ l.length - i := by
  unfold segL
  have := (List.takeWhile_sublist (fun b : UInt8 => b != 47) (l := l.drop i)).length_le
  rw [List.length_drop] at this
  exact this
theorem segL_slash {l : List UInt8} {i : Nat} (h : l[i]? = some 47) : segL l i = [] := by
  unfold segL
  obtain ⟨hi, e⟩ := List.getElem?_eq_some_iff.1 h
  rw [List.drop_eq_getElem_cons hi, e]
  rfl
/-- behind a part there is a slash, or the end -/
theorem segL_behind : ∀ (l : List UInt8), l[(l.takeWhile (fun b => b != 47)).length]? = none ∨ l[(l.takeWhile (fun b => b != 47)).length]? = some 47
  | [] => by simp
  | b :: l => by
    rw [List.takeWhile_cons]
    by_cases hb : b = 47
    · simp [hb]
    · simpa [hb] using segL_behind l
theorem segL_next (l : List UInt8) (i : Nat) : l[i + (segL l i).length]? = none ∨ l[i + (segL l i).length]? = some 47 := by
  have := segL_behind (l.drop i)
  rw [List.getElem?_drop] at this
  exact this
/-- the parts from a place on, with their places -/
def ptF : Nat → List UInt8 → Nat → List (Nat × ByteArray)
  | 0, _, _ => []
  | n + 1, l, i => if i < l.length then (if segL l i = [] then ptF n l (i + 1) else (i, bsL (segL l i)) :: ptF n l (i + (segL l i).length + 1)) else []
theorem ptF_end (n : Nat) {l : List UInt8} {i : Nat} (h : l.length ≤ i) : ptF n l i = [] := by
  cases n with
  | zero => rfl
  | succ n => rw [ptF, if_neg (by omega)]
theorem ptF_more : ∀ (n m : Nat) (l : List UInt8) (i : Nat), l.length - i ≤ n → l.length - i ≤ m → ptF n l i = ptF m l i
  | 0, m, l, i, hn, hm => by rw [ptF_end m (by omega)]; rfl
  | n + 1, 0, l, i, hn, hm => by rw [ptF_end (n + 1) (by omega)]; rfl
  | n + 1, m + 1, l, i, hn, hm => by
    by_cases hi : i < l.length
    · rw [ptF, ptF, if_pos hi, if_pos hi]
      by_cases hs : segL l i = []
      · rw [if_pos hs, if_pos hs]
        exact ptF_more n m l (i + 1) (by omega) (by omega)
      · rw [if_neg hs, if_neg hs, ptF_more n m l _ (by omega) (by omega)]
    · rw [ptF, ptF, if_neg hi, if_neg hi]
def pts (l : List UInt8) (i : Nat) : List (Nat × ByteArray) := ptF l.length l i
theorem pts_end {l : List UInt8} {i : Nat} (h : l.length ≤ i) : pts l i = [] := ptF_end _ h
theorem pts_skip {l : List UInt8} {i : Nat} (hi : i < l.length) (hs : segL l i = []) : pts l i = pts l (i + 1) := by
  unfold pts
  rw [ptF_more l.length (l.length + 1) l i (by omega) (by omega), ptF, if_pos hi, if_pos hs]
theorem pts_part {l : List UInt8} {i : Nat} (hi : i < l.length) (hs : segL l i ≠ []) : pts l i = (i, bsL (segL l i)) :: pts l (i + (segL l i).length + 1) := by
  unfold pts
  rw [ptF_more l.length (l.length + 1) l i (by omega) (by omega), ptF, if_pos hi, if_neg hs]
theorem pts_slash {l : List UInt8} {i : Nat} (h : l[i]? = some 47) : pts l i = pts l (i + 1) :=
  pts_skip (List.getElem?_eq_some_iff.1 h).1 (segL_slash h)
theorem pts_behind (l : List UInt8) (i : Nat) : pts l (i + (segL l i).length) = pts l (i + (segL l i).length + 1) := by
  rcases segL_next l i with h | h
  · have := List.getElem?_eq_none_iff.1 h
    rw [pts_end this, pts_end (by omega)]
  · exact pts_slash h
/-- what is wrong with a part behind these names -/
def badE (N : List ByteArray) (p : ByteArray) : Int :=
  if p.data.toList = [46] then 0 else if p.data.toList = [46, 46] then 0 else if isName p.data.toList = true then (if 32 ≤ N.length then 182 else 0) else 130
/-- the names behind a part -/
def nxtN (N : List ByteArray) (p : ByteArray) : List ByteArray :=
  if p.data.toList = [46] then N else if p.data.toList = [46, 46] then N.dropLast else N ++ [p]
/-- does a part ask for a directory? -/
def dirP (p : ByteArray) : Bool := decide (p.data.toList = [46]) || decide (p.data.toList = [46, 46])
/-- all parts gone through: names, directory, place, error -/
def runP : List ByteArray → Bool → List (Nat × ByteArray) → List ByteArray × Bool × Nat × Int
  | N, d, [] => (N, d, 0, 0)
  | N, d, x :: xs => if badE N x.2 = 0 then runP (nxtN N x.2) (dirP x.2) xs else ([], false, x.1, badE N x.2)
theorem runP_good {N : List ByteArray} {d : Bool} {x : Nat × ByteArray} (h : badE N x.2 = 0) (xs : List (Nat × ByteArray)) : runP N d (x :: xs) = runP (nxtN N x.2) (dirP x.2) xs := by
  rw [runP, if_pos h]
theorem runP_bad {N : List ByteArray} {d : Bool} {x : Nat × ByteArray} (h : badE N x.2 ≠ 0) (xs : List (Nat × ByteArray)) : runP N d (x :: xs) = ([], false, x.1, badE N x.2) := by
  rw [runP, if_neg h]
/-- the last byte is a slash -/
def endS (l : List UInt8) : Bool := decide (l.getLast? = some 47)
/-- what Parse answers: names, directory, place, error -/
def prs (l : List UInt8) : List ByteArray × Bool × Nat × Int :=
  if 1024 < l.length then ([], false, 1024, 181) else if l[0]? = some 47 then
    (if (runP [] false (pts l 0)).2.2.2 = 0 then ((runP [] false (pts l 0)).1, (runP [] false (pts l 0)).2.1 || endS l, 0, 0) else ([], false, (runP [] false (pts l 0)).2.2.1, (runP [] false (pts l 0)).2.2.2))
  else ([], false, 0, 180)
end Go.Proofs.YtimjggkdpmgpjaaGreatDoor

namespace Go.Proofs
open Go.Shelf
def Tryz.prefixA_ren : Go.Shelf.Ren := ⟨fun | 99 => 55 | 206 => 91 | n => n, fun | 9 => 9 | 4 => 4 | 3 => 3 | n => n, fun | n => n⟩
theorem Tryz.prefixA : Go.Proofs.Lays.n99 Tryz.prog Tryz.prefixA_ren := {
  mixed := by kernel_rfl
  f99 := Tryz.func55.trans (congrArg some (by kernel_rfl))
  f206 := Tryz.func91.trans (congrArg some (by kernel_rfl))
  t3 := Tryz.underlying3
  a3 := Tryz.isAgg3
  z3 := Tryz.sizeOf3
  v3 := Tryz.zeroValue3
  t4 := Tryz.underlying4
  a4 := Tryz.isAgg4
  z4 := Tryz.sizeOf4
  v4 := Tryz.zeroValue4
  t9 := Tryz.underlying9
  a9 := Tryz.isAgg9
  z9 := Tryz.sizeOf9
  v9 := Tryz.zeroValue9 }
def Tryz.suffixA_ren : Go.Shelf.Ren := ⟨fun | 100 => 59 | 207 => 95 | n => n, fun | 9 => 9 | 4 => 4 | 3 => 3 | n => n, fun | n => n⟩
theorem Tryz.suffixA : Go.Proofs.Lays.n100 Tryz.prog Tryz.suffixA_ren := {
  mixed := by kernel_rfl
  f100 := Tryz.func59.trans (congrArg some (by kernel_rfl))
  f207 := Tryz.func95.trans (congrArg some (by kernel_rfl))
  t3 := Tryz.underlying3
  a3 := Tryz.isAgg3
  z3 := Tryz.sizeOf3
  v3 := Tryz.zeroValue3
  t4 := Tryz.underlying4
  a4 := Tryz.isAgg4
  z4 := Tryz.sizeOf4
  v4 := Tryz.zeroValue4
  t9 := Tryz.underlying9
  a9 := Tryz.isAgg9
  z9 := Tryz.sizeOf9
  v9 := Tryz.zeroValue9 }
def Tryz.indexA_ren : Go.Shelf.Ren := ⟨fun | 219 => 131 | 217 => 161 | 225 => 162 | 224 => 163 | 267 => 164 | 266 => 189 | 314 => 190 | n => n, fun | 9 => 9 | 3 => 3 | 4 => 4 | 5 => 5 | 46 => 278 | 146 => 307 | 51 => 70 | n => n, fun | 1 => 0 | n => n⟩
theorem Tryz.indexA : Go.Proofs.Lays.n219 Tryz.prog Tryz.indexA_ren := {
  mixed := by kernel_rfl
  f217 := Tryz.func161.trans (congrArg some (by kernel_rfl))
  f219 := Tryz.func131.trans (congrArg some (by kernel_rfl))
  f224 := Tryz.func163.trans (congrArg some (by kernel_rfl))
  f225 := Tryz.func162.trans (congrArg some (by kernel_rfl))
  f266 := Tryz.func189.trans (congrArg some (by kernel_rfl))
  f267 := Tryz.func164.trans (congrArg some (by kernel_rfl))
  f314 := Tryz.func190.trans (congrArg some (by kernel_rfl))
  t3 := Tryz.underlying3
  a3 := Tryz.isAgg3
  z3 := Tryz.sizeOf3
  v3 := Tryz.zeroValue3
  t4 := Tryz.underlying4
  a4 := Tryz.isAgg4
  z4 := Tryz.sizeOf4
  v4 := Tryz.zeroValue4
  t5 := Tryz.underlying5
  a5 := Tryz.isAgg5
  z5 := Tryz.sizeOf5
  v5 := Tryz.zeroValue5
  t9 := Tryz.underlying9
  a9 := Tryz.isAgg9
  z9 := Tryz.sizeOf9
  v9 := Tryz.zeroValue9
  t46 := Tryz.underlying278
  a46 := Tryz.isAgg278
  z46 := Tryz.sizeOf278
  v46 := Tryz.zeroValue278
  t51 := Tryz.underlying70
  a51 := Tryz.isAgg70
  z51 := Tryz.sizeOf70
  v51 := Tryz.zeroValue70
  t146 := Tryz.underlying307
  a146 := Tryz.isAgg307
  z146 := Tryz.sizeOf307
  v146 := Tryz.zeroValue307
  g1 := by kernel_rfl }
end Go.Proofs

namespace Go.Proofs.YtimjggkdpmgpjaaGreatDoor
open Go Go.RowKit
section
variable {P : Program} {ops : Array Oper} {Q : Exit → Act → World → Prop} {md : Region.Mode}
/-- no operation defers a call -/
def noDefer (ops : Array Oper) : Bool := ops.all fun o => match o.op with
  | .defer _ => false
  | _ => true
theorem noDefer_at (h : noDefer ops = true) {i : Nat} {o : Oper} (hi : ops[i]? = some o) : ∀ c, o.op ≠ .defer c := by
  intro c hc
  unfold noDefer at h
  rw [Array.all_eq_true] at h
  obtain ⟨hlt, e⟩ := Array.getElem?_eq_some_iff.1 hi
  have := h i hlt
  rw [e, hc] at this
  cases this
theorem oper_round {o : Oper} {a : Act} {w : World} {K : Act → World → Prop} (l n : Nat) (hnd : ∀ c, o.op ≠ .defer c) (h : o.wp P a w K (Strict Q)) : o.wpIn (Fence.wide.inRound l) n P a w K Q := by
  refine ⟨fun _ _ => trivial, ?_⟩
  rw [show (Fence.wide.inRound l).round = some l from rfl, Oper.semAt_some l _ o hnd]
  unfold Oper.wp at h
  generalize (execOp a.eval o).run P w = r at *
  cases r with
  | ok x w' =>
    cases x <;> simp only [Oper.upon, Oper.uponIn] at h ⊢ <;> first
      | exact h
      | exact ⟨fun h => (by cases h), CallsIn.inRound l (callsIn_wide.2 (h.mono fun e w'' he => (by
          cases e with
          | returned v => exact he
          | panicked c => cases he.1
          | outgrown => exact absurd he Strict.noOut)))⟩
      | exact ⟨fun h => (by cases h), fun c cs _ => (by
          obtain ⟨v, w2, hr, hs⟩ := h c cs
          exact ⟨v, w2, hr, stepsIn_wide.2 hs⟩)⟩
  | halt x w' =>
    cases x <;> simp only [Oper.upon, Oper.uponIn] at h ⊢
    cases h.1
theorem op_round {i : Nat} {a : Act} {w : World} {K : Act → World → Prop} (l n : Nat) (hnd : noDefer ops = true) (h : wpOp P ops (Strict Q) i K a w) : wpOpIn (Fence.wide.inRound l) n P ops Q i K a w := by
  unfold wpOp at h
  unfold wpOpIn
  split
  · rename_i hn; simp only [hn] at h; exact h
  · rename_i o ho
    simp only [ho] at h
    split
    · rename_i hw
      simp only [hw, if_true] at h
      rcases h with h | ⟨_, h⟩
      · exact oper_round l n (noDefer_at hnd ho) h
      · exact absurd h Strict.noOut
    · rename_i hw
      simp only [hw] at h
      exact ⟨fun _ _ => trivial, h⟩
theorem any_round (l n : Nat) (hnd : noDefer ops = true) : ∀ (fuel : Nat) (listed : Array Bool) (a : Act) (w : World), wpAny P md ops (Strict Q) fuel listed a w → wpAnyIn (Fence.wide.inRound l) n P md ops Q fuel listed a w
  | 0, _, _, _, h => ⟨h.1, h.2.2⟩
  | fuel + 1, _, _, _, h => ⟨fun e => (h.1 e).2, fun i hi => op_round l n hnd (wpOp_mono (fun a' w' h' => any_round l n hnd fuel _ a' w' h') (h.2 i hi))⟩
theorem wpIn_region_partsS {id l n : Nat} {a : Act} {w : World} (S : World → Prop) (ps : List (List Nat × Nat × Bool)) (takes tail : List Nat) (hm : P.follows .mixedOrders = true) (hd : noDefer ops = true) (hB : wholeB ops tail [] ps takes tail = true)
    (hS : S w.drew) (h : wpPartsI P ops Q S ps (takes ++ tail) a w.drew) : (Code.region id ops true).wpIn (Fence.wide.inRound l) n P Q a w := by
  unfold wholeB at hB
  simp only [Bool.and_eq_true, beq_iff_eq] at hB
  refine wpIn_region_any hm (any_round l n hd _ _ _ _ ?_)
  rw [← hB.1.1.1]
  exact wpAny_of_W _ _ _ _ (partsS_step hB.1.1.2 takes tail ps _ a _ (by rw [hB.1.1.1]; exact hB.2) hS h)
end
end Go.Proofs.YtimjggkdpmgpjaaGreatDoor

namespace Go.Proofs.YtimjggkdpmgpjaaGreatDoor
open Go Go.RowKit Go.Shelf
set_option linter.unusedVariables false
set_option linter.unusedSimpArgs false
attribute [local go_sem] Oper.semAt_some
theorem seg_index : ∀ l : List UInt8, (Lib.indexByte l 47 = -1 ∧ segL l 0 = l) ∨ (∃ i : Nat, Lib.indexByte l 47 = (i : Int) ∧ i < l.length ∧ segL l 0 = l.take i)
  | [] => .inl ⟨rfl, rfl⟩
  | b :: l => by
    by_cases hb : b = 47
    · exact .inr ⟨0, by simp [Lib.indexByte, hb], by simp, by simp [segL, hb]⟩
    · have e1 : segL (b :: l) 0 = b :: segL l 0 := by
        simp [segL, hb]
      rcases seg_index l with ⟨h1, h2⟩ | ⟨i, h1, h2, h3⟩
      · exact .inl ⟨by simp [Lib.indexByte, hb, h1], by rw [e1, h2]⟩
      · refine .inr ⟨i + 1, ?_, by simp; omega, by rw [e1, h3]; rfl⟩
        have : ¬ ((i : Int) = -1) := by omega
        simp [Lib.indexByte, hb, h1, this]
theorem ba_take (s : ByteArray) (i : Nat) (hi : i ≤ s.size) : s.extract 0 i = bsL (s.data.toList.take i) := by
  rw [Lib.extract_eq]
  simp [bsL]
theorem ba_drop (s : ByteArray) (i : Nat) : (s.extract i s.size).data.toList = s.data.toList.drop i := by
  rw [Lib.extract_data, List.take_of_length_le]
  rw [List.length_drop, ← Lib.size_eq]
  exact Nat.le_refl _
set_option maxRecDepth 100000 in
set_option maxHeartbeats 2000000 in
theorem lcut_any (s : ByteArray) (hs : s.size < 4294967281) (w : World) :
    Calls Tryz.prog 116 #[.string s, .string ⟨#[47]⟩] w fun e w' => (∃ v1 v2 : Value, e = .returned (.tuple #[.string (bsL (segL s.data.toList 0)), v1, v2])) ∧ ∃ n, w' = w.drewN n := by
  have HX : Hid (∀ w : World, Calls Tryz.prog 131 #[.string s, .string ⟨#[47]⟩] w fun e w' => e = .returned (.int .i64 (Lib.indexByte s.data.toList 47)) ∧ w' = w) := fun w => Any.stringslite_Index_one Tryz.indexA s 47 w
  rcases seg_index s.data.toList with ⟨h1, h2⟩ | ⟨i, h1, h2, h3⟩
  · rw [h2, bsL_of]
    rw [h1] at HX
    clear h1 h2
    go_enter Tryz.func116, Tryz.ntmps116
    go_wp2_with fail
    refine (HX.out _).mono ?_
    rintro e w9 ⟨rfl, hw9⟩
    subst w9
    go_wp2_with fail
    go_ret3
    exact ⟨⟨_, _, rfl⟩, 0, rfl⟩
  · have hi : i < s.size := by rw [Lib.size_eq]; exact h2
    rw [h3, ← ba_take s i (by omega)]
    rw [h1] at HX
    clear h1 h2 h3
    have c1 : (0 : Int) ≤ ↑i := by omega
    have c2 : (↑i : Int) ≤ ↑s.size := by omega
    have c3 : (0 : Int) ≤ ↑i + 1 := by omega
    have c4 : (↑i + 1 : Int) ≤ ↑s.size := by omega
    go_enter Tryz.func116, Tryz.ntmps116
    go_wp2_with fail
    refine (HX.out _).mono ?_
    rintro e w9 ⟨rfl, hw9⟩
    subst w9
    go_wp2_with fail
    go_region
    go_wp2
    go_ret3
    exact ⟨⟨_, _, rfl⟩, 1, rfl⟩
theorem cut_any (s : ByteArray) (hs : s.size < 4294967281) (w : World) :
    Calls Tryz.prog 93 #[.string s, .string ⟨#[47]⟩] w fun e w' => (∃ v1 v2 : Value, e = .returned (.tuple #[.string (bsL (segL s.data.toList 0)), v1, v2])) ∧ ∃ n, w' = w.drewN n := by
  have HX : Hid (∀ w : World, Calls Tryz.prog 116 #[.string s, .string ⟨#[47]⟩] w fun e w' => (∃ v1 v2 : Value, e = .returned (.tuple #[.string (bsL (segL s.data.toList 0)), v1, v2])) ∧ ∃ n, w' = w.drewN n) := fun w => lcut_any s hs w
  generalize bsL (segL s.data.toList 0) = p at *
  go_enter Tryz.func93, Tryz.ntmps93
  go_wp2_with fail
  refine (HX.out _).mono ?_
  rintro e w9 ⟨⟨v1, v2, rfl⟩, n, rfl⟩
  go_wp2_with fail
  go_ret3
  exact ⟨⟨_, _, rfl⟩, n, rfl⟩
/-- a block is as it was -/
def KpB (Bn : Nat) (W V : World) : Prop := V.heap[Bn]? = W.heap[Bn]?
/-- a place and a part, as values -/
def encP (x : Nat × ByteArray) : Array Value := #[.int .i64 (x.1 : Int), .string x.2]
theorem abides_below {J : List (Nat × ByteArray) → World → Prop} {B : Nat} (hJ : AbidesFrom B J) {pre : List (Nat × ByteArray)} {W W' : World} (h : J pre W) (hb : Below W.heap.size W W') : J pre W' :=
  hJ pre W W' none h ⟨hb.os, hb.tape, hb.output, hb.size, fun k hk _ => hb.block k hk⟩ (fun r e => by cases e)
set_option maxRecDepth 100000 in
set_option maxHeartbeats 2000000 in
theorem parts1_in (l Bn : Nat) (s : ByteArray) (hs : s.size < 4294967281) (J Jx : List (Nat × ByteArray) → World → Prop)
    (hY : ∀ pre x W, J pre W → pre.length < (pts s.data.toList 0).length → YieldAt Fence.wide (3 - 1) Tryz.prog l (encP x) W fun e W' =>
      (e = .returned (.bool true) ∧ J (pre ++ [x]) W' ∧ KpB Bn W W') ∨ (e = .returned (.bool false) ∧ Jx (pre ++ [x]) W'))
    (W : World) (hJ : AbidesFrom W.heap.size J) (hBn : Boxed W Bn 9 (.string s)) (h0 : J [] W) :
    CallsIn Fence.wide 3 Tryz.prog 92 #[.func (.yield l) #[] #[], .pointer (some ⟨Bn, 0, none⟩)] W fun e W' => (∃ v, e = .returned v) ∧
      ((∃ ys, ys = pts s.data.toList 0 ∧ J ys W') ∨ (∃ pre, pre <+: pts s.data.toList 0 ∧ Jx pre W')) := by
  have HL : Hid (s.size = s.data.toList.length) := Lib.size_eq s
  refine callsIn_of_wp Tryz.func92 rfl trivial ?_ rfl
  simp only [Tryz.ntmps92, List.size_toArray, List.length_cons, List.length_nil, Nat.reduceAdd, Nat.reduceSub, Array.replicate_succ, Array.replicate_zero, List.push_toArray, List.append_toArray, List.nil_append, List.cons_append]
  gi_wp2
  gi_loopw [3] (fun v wr => Hid (∃ (pre : List (Nat × ByteArray)) (i : Nat), v = .int .i64 (i : Int) ∧ i ≤ s.size + 1 ∧ pts s.data.toList 0 = pre ++ pts s.data.toList i ∧ J pre wr ∧ Boxed wr Bn 9 (.string s)))
    (fun v wr => s.size + 1 - (intOf v).toNat)
  case atStart => exact ⟨[], 0, rfl, by omega, rfl, h0, hBn⟩
  case round =>
    obtain ⟨pre, i, rfl, hi1, hp, hJs, hB⟩ := Hid.out hrel
    clear hrel
    have hc := hB.cell
    by_cases hi : i < s.size
    · have hz : (i : Int) < (s.size : Int) := by omega
      have HP : Hid (pts s.data.toList 0 = pre ++ pts s.data.toList i) := hp
      have HJ : Hid (J pre wr) := hJs
      have HB : Hid (Boxed wr Bn 9 (.string s)) := hB
      have HX : Hid (∀ w : World, Calls Tryz.prog 93 #[.string (s.extract i s.size), .string ⟨#[47]⟩] w fun e w' => (∃ v1 v2 : Value, e = .returned (.tuple #[.string (bsL (segL s.data.toList i)), v1, v2])) ∧ ∃ n, w' = w.drewN n) := fun w => by
        have := cut_any (s.extract i s.size) (by rw [ByteArray.size_extract]; omega) w
        rwa [ba_drop, segL_drop, Nat.add_zero] at this
      clear hp hJs hB
      have hsl := segL_le s.data.toList i
      rw [← HL.out] at hsl
      have hiL : i < s.data.toList.length := by rw [← HL.out]; exact hi
      obtain ⟨p, hpe⟩ : ∃ p, bsL (segL s.data.toList i) = p := ⟨_, rfl⟩
      have hps : p.size = (segL s.data.toList i).length := by rw [← hpe, bsL_size]
      rw [← hps] at hsl
      have hpl : p.toList = segL s.data.toList i := by rw [← hpe, Lib.toList_data, bsL_data]
      have HE : Hid (_ ∧ _ ∧ _ ∧ _) := ⟨hpe, hps, hpl, hiL⟩
      rw [hpe] at HX
      by_cases hq : segL s.data.toList i = []
      · have he : p.toList = [] := hpl.trans hq
        have hz0 : p.size = 0 := by rw [hps, hq]; rfl
        have HQ : Hid (pts s.data.toList i = pts s.data.toList (i + 1)) := pts_skip hiL hq
        clear hpe hps hpl hiL hq
        gi_wp2
        refine ⟨trivial, ?_⟩
        refine (callsIn_wide.2 (HX.out _)).mono ?_
        rintro e w9 ⟨⟨v1, v2, rfl⟩, n, rfl⟩
        gi_wp2
        refine ⟨fun _ h => (by cases h), ?_⟩
        gi_wp2
        go_roundw
        case rel => exact ⟨pre, i + 1, by first | rfl | simp [hz0] | go_num, by omega, by rw [HP.out, HQ.out], abides_below hJ HJ.out (bdrewN (Below.refl _ _) n), HB.out⟩
        case measure => simp [intOf, hz0]; omega
      · have he : ¬ p.toList = [] := by rw [hpl]; exact hq
        have HQ : Hid (pts s.data.toList i = (i, p) :: pts s.data.toList (i + p.size + 1)) := by
          have := pts_part hiL hq
          rw [hpe, ← hps] at this
          exact this
        clear hpe hps hpl hiL hq
        gi_wp2
        refine ⟨trivial, ?_⟩
        refine (callsIn_wide.2 (HX.out _)).mono ?_
        rintro e w9 ⟨⟨v1, v2, rfl⟩, n, rfl⟩
        obtain ⟨fn, tmps, assign, body, hy, hR⟩ := hY pre (i, p) (wr.drewN n) (abides_below hJ HJ.out (bdrewN (Below.refl _ _) n)) (by rw [HP.out, HQ.out]; simp)
        dsimp only [encP] at hy
        gi_wp2
        refine hR.mono ?_
        rintro e W3 (⟨rfl, hJ3, hk3⟩ | ⟨rfl, hJx3⟩)
        · have hB3 : Boxed W3 Bn 9 (.string s) := hk3.trans HB.out
          gi_wp2
          refine ⟨⟨pre ++ [(i, p)], i + p.size + 1, by rw [show ((i + p.size + 1 : Nat) : Int) = (i : Int) + ((p.size : Int) + 1) by omega], by omega, by rw [HP.out, HQ.out]; simp, hJ3, hB3⟩, ?_⟩
          simp only [intOf]
          omega
        · gi_wp2
          rotate_left
          · rename_i hx
            simp [he] at hx
          refine bodyPost_ret (results_none rfl _ _ _) rfl ?_
          exact ⟨⟨_, rfl⟩, .inr ⟨pre ++ [(i, p)], ⟨pts s.data.toList (i + p.size + 1), by rw [HP.out, HQ.out]; simp⟩, hJx3⟩⟩
    · have hz : ¬ (i : Int) < (s.size : Int) := by omega
      have HP : Hid (pts s.data.toList 0 = pre) := by
        rw [pts_end (i := i) (by rw [← HL.out]; omega), List.append_nil] at hp
        exact hp
      clear hp hB
      have hiz := hi
      gi_wp2
      go_end0
      exact ⟨⟨_, rfl⟩, .inl (by rw [HP.out]; exact hJs)⟩
theorem parts_in (s : ByteArray) (w : World) : CallsIn Fence.wide 3 Tryz.prog 56 #[.string s] w fun e w' => e = .returned (.func (.func 92) #[] #[.pointer (some ⟨w.heap.size, 0, none⟩)]) ∧ w' = w.alloc (.cells #[.string s] 9) := by
  refine callsIn_of_wp Tryz.func56 rfl trivial ?_ rfl
  simp only [Tryz.ntmps56, List.size_toArray, List.length_cons, List.length_nil, Nat.reduceAdd, Nat.reduceSub, Array.replicate_succ, Array.replicate_zero, List.push_toArray, List.append_toArray, List.nil_append, List.cons_append]
  gi_wp2
  go_ret
  exact ⟨rfl, rfl⟩
theorem parts_stops (Bn : Nat) (s : ByteArray) (hs : s.size < 4294967281) (w : World) (hB : Boxed w Bn 9 (.string s)) :
    SeqStopsK Fence.wide 3 Tryz.prog 92 #[.pointer (some ⟨Bn, 0, none⟩)] encP (KpB Bn) (fun ys => ys = pts s.data.toList 0) (fun pre => pre <+: pts s.data.toList 0) (pts s.data.toList 0).length w := fun l J Jx W hW hJ _ hY h0 =>
  parts1_in l Bn s hs J Jx hY W hJ ((hW.block Bn hB.lt).trans hB) h0
end Go.Proofs.YtimjggkdpmgpjaaGreatDoor
