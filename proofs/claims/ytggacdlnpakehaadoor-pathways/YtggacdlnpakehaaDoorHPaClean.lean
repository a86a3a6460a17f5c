/- The one form of a path is read as its names. No program in it. -/
import Derived.Shelf.Strings.OnBuilder
import Derived.Shelf.Slices.Equal
import Derived.Shelf.Slices.Clone
import Derived.Shelf.Slices.Empties2
import Derived.Test.YtggacdlnpakehaaDoorProg
import Derived.Test.YtggacdlnpakehaaDoorHPaRef
import Derived.Lib.FJoinFns
import Derived.BigQuiet
import Derived.Deep.QuietTactic

namespace Go.Proofs
open Go.Shelf
def Tryd.joinA_ren : Go.Shelf.Ren := ⟨fun | 156 => 17 | 165 => 28 | 166 => 29 | 169 => 30 | 240 => 44 | 241 => 45 | 276 => 57 | 277 => 58 | n => n, fun | 31 => 28 | 9 => 9 | 3 => 3 | 4 => 4 | 0 => 0 | 20 => 20 | 72 => 56 | 76 => 60 | 70 => 53 | 37 => 54 | 75 => 59 | 127 => 81 | 164 => 88 | 5 => 5 | 80 => 62 | n => n, fun | n => n⟩
theorem Tryd.joinA : Go.Proofs.Lays.n156 Tryd.prog Tryd.joinA_ren := {
  mixed := by kernel_rfl
  f156 := Tryd.func17.trans (congrArg some (by kernel_rfl))
  f165 := Tryd.func28.trans (congrArg some (by kernel_rfl))
  f166 := Tryd.func29.trans (congrArg some (by kernel_rfl))
  f169 := Tryd.func30.trans (congrArg some (by kernel_rfl))
  f240 := Tryd.func44.trans (congrArg some (by kernel_rfl))
  f241 := Tryd.func45.trans (congrArg some (by kernel_rfl))
  f276 := Tryd.func57.trans (congrArg some (by kernel_rfl))
  f277 := Tryd.func58.trans (congrArg some (by kernel_rfl))
  t0 := Tryd.underlying0
  a0 := Tryd.isAgg0
  z0 := Tryd.sizeOf0
  v0 := Tryd.zeroValue0
  t3 := Tryd.underlying3
  a3 := Tryd.isAgg3
  z3 := Tryd.sizeOf3
  v3 := Tryd.zeroValue3
  t4 := Tryd.underlying4
  a4 := Tryd.isAgg4
  z4 := Tryd.sizeOf4
  v4 := Tryd.zeroValue4
  t9 := Tryd.underlying9
  a9 := Tryd.isAgg9
  z9 := Tryd.sizeOf9
  v9 := Tryd.zeroValue9
  t20 := Tryd.underlying20
  a20 := Tryd.isAgg20
  z20 := Tryd.sizeOf20
  v20 := Tryd.zeroValue20
  t31 := Tryd.underlying28
  a31 := Tryd.isAgg28
  z31 := Tryd.sizeOf28
  v31 := Tryd.zeroValue28
  t37 := Tryd.underlying54
  a37 := Tryd.isAgg54
  z37 := Tryd.sizeOf54
  v37 := Tryd.zeroValue54
  t70 := Tryd.underlying53
  a70 := Tryd.isAgg53
  z70 := Tryd.sizeOf53
  v70 := Tryd.zeroValue53
  t72 := Tryd.underlying56
  a72 := Tryd.isAgg56
  z72 := Tryd.sizeOf56
  v72 := Tryd.zeroValue56
  t75 := Tryd.underlying59
  a75 := Tryd.isAgg59
  z75 := Tryd.sizeOf59
  v75 := Tryd.zeroValue59
  t76 := Tryd.underlying60
  a76 := Tryd.isAgg60
  z76 := Tryd.sizeOf60
  v76 := Tryd.zeroValue60
  t127 := Tryd.underlying81
  a127 := Tryd.isAgg81
  z127 := Tryd.sizeOf81
  v127 := Tryd.zeroValue81
  t164 := Tryd.underlying88
  a164 := Tryd.isAgg88
  z164 := Tryd.sizeOf88
  v164 := Tryd.zeroValue88 }
def Tryd.equalA_ren : Go.Shelf.Ren := ⟨fun | 193 => 26 | n => n, fun | 31 => 28 | 9 => 9 | 4 => 4 | 3 => 3 | 0 => 0 | n => n, fun | n => n⟩
theorem Tryd.equalA : Go.Proofs.Lays.n193 Tryd.prog Tryd.equalA_ren := {
  mixed := by kernel_rfl
  f193 := Tryd.func26.trans (congrArg some (by kernel_rfl))
  t0 := Tryd.underlying0
  a0 := Tryd.isAgg0
  z0 := Tryd.sizeOf0
  v0 := Tryd.zeroValue0
  t3 := Tryd.underlying3
  a3 := Tryd.isAgg3
  z3 := Tryd.sizeOf3
  v3 := Tryd.zeroValue3
  t4 := Tryd.underlying4
  a4 := Tryd.isAgg4
  z4 := Tryd.sizeOf4
  v4 := Tryd.zeroValue4
  t9 := Tryd.underlying9
  a9 := Tryd.isAgg9
  z9 := Tryd.sizeOf9
  v9 := Tryd.zeroValue9
  t31 := Tryd.underlying28
  a31 := Tryd.isAgg28
  z31 := Tryd.sizeOf28
  v31 := Tryd.zeroValue28 }
end Go.Proofs

namespace Go.Proofs.YtggacdlnpakehaaDoor
open Go Go.RowKit Go.Shelf
set_option linter.unusedVariables false
set_option linter.unusedSimpArgs false
/-- at most 32 names -/
def GoodN (N : List ByteArray) : Prop := N.length ≤ 32 ∧ ∀ x ∈ N, isName x.data.toList = true
theorem GoodN.nil : GoodN [] := ⟨by simp, by simp⟩
theorem GoodN.drop {N : List ByteArray} (h : GoodN N) : GoodN N.dropLast := ⟨by have := h.1; simp; omega, fun x hx => h.2 x (List.dropLast_subset N hx)⟩
theorem GoodN.take {N : List ByteArray} (h : GoodN N) (k : Nat) : GoodN (N.take k) := ⟨by have := h.1; simp; omega, fun x hx => h.2 x (List.take_subset k N hx)⟩
theorem good_nxt {N : List ByteArray} {p : ByteArray} (h : GoodN N) (hb : badE N p = 0) : GoodN (nxtN N p) := by
  unfold nxtN
  unfold badE at hb
  by_cases q1 : p.data.toList = [46]
  · rw [if_pos q1]; exact h
  rw [if_neg q1] at hb ⊢
  by_cases q2 : p.data.toList = [46, 46]
  · rw [if_pos q2]; exact h.drop
  rw [if_neg q2] at hb ⊢
  by_cases q3 : isName p.data.toList = true
  · rw [if_pos q3] at hb
    by_cases q4 : 32 ≤ N.length
    · rw [if_pos q4] at hb; exact absurd hb (by decide)
    · refine ⟨by simp; omega, fun x hx => ?_⟩
      rcases List.mem_append.1 hx with hx | hx
      · exact h.2 x hx
      · rw [List.mem_singleton.1 hx]; exact q3
  · rw [if_neg q3] at hb; exact absurd hb (by decide)
theorem good_run : ∀ (xs : List (Nat × ByteArray)) (N : List ByteArray) (d : Bool), GoodN N → GoodN (runP N d xs).1
  | [], N, d, h => h
  | x :: xs, N, d, h => by
    rw [runP]
    by_cases hb : badE N x.2 = 0
    · rw [if_pos hb]; exact good_run xs _ _ (good_nxt h hb)
    · rw [if_neg hb]; exact GoodN.nil
theorem good_prs (l : List UInt8) : GoodN (prs l).1 := by
  unfold prs
  split
  · exact GoodN.nil
  · split
    · split
      · exact good_run _ _ _ GoodN.nil
      · exact GoodN.nil
    · exact GoodN.nil
/-- the one form -/
def frmL (N : List ByteArray) : List UInt8 := 47 :: Lib.join (N.map (·.data.toList)) [47]
/-- a slash ahead of each -/
def accN (N : List ByteArray) : List UInt8 := Lib.joinTail [47] (N.map (·.data.toList))
theorem frm_acc {N : List ByteArray} (h : N ≠ []) : frmL N = accN N := by
  cases N with
  | nil => exact absurd rfl h
  | cons x N =>
    unfold frmL accN
    rw [List.map_cons, Lib.join_cons]
    simp [Lib.joinTail]
theorem frm_nil : frmL [] = [47] := rfl
theorem acc_snoc (N : List ByteArray) (x : ByteArray) : accN (N ++ [x]) = accN N ++ 47 :: x.data.toList := by
  unfold accN
  simp [Lib.joinTail]
theorem acc_len : ∀ N : List ByteArray, (accN N).length = N.length + (N.map fun x => x.size).sum
  | [] => rfl
  | x :: N => by
    have ih := acc_len N
    unfold accN at ih ⊢
    simp only [Lib.joinTail, List.map_cons, List.flatten_cons, List.length_append, List.length_cons, List.sum_cons, List.length_nil, Lib.size_eq] at ih ⊢
    omega
theorem sum_le : ∀ (N : List ByteArray), (∀ x ∈ N, isName x.data.toList = true) → (N.map fun x => x.size).sum ≤ 56 * N.length
  | [], _ => by simp
  | x :: N, h => by
    have ih := sum_le N fun y hy => h y (List.mem_cons_of_mem _ hy)
    have := (isName_len (h x (by simp))).2
    rw [← Lib.size_eq] at this
    simp only [List.map_cons, List.sum_cons, List.length_cons]
    omega
theorem good_len {N : List ByteArray} (h : GoodN N) : (accN N).length ≤ 1824 := by
  have := sum_le N h.2
  have := h.1
  rw [acc_len]
  omega
theorem frm_len {N : List ByteArray} (h : GoodN N) : (frmL N).length ≤ 1824 := by
  by_cases hN : N = []
  · rw [hN, frm_nil]; decide
  · rw [frm_acc hN]; exact good_len h
theorem jn_len {N : List ByteArray} (h : GoodN N) : (Lib.join (N.map (·.data.toList)) [47]).length ≤ 1824 := by
  have := frm_len h
  unfold frmL at this
  rw [List.length_cons] at this
  omega
theorem bx_join : Builder.Extra Tryd.prog Tryd.joinA_ren where
  sizeBuilder := by kernel_rfl
  liesBuilder := by kernel_rfl
  t5 := Tryd.underlying5
  a5 := Tryd.isAgg5
  z5 := Tryd.sizeOf5
  v5 := Tryd.zeroValue5
  infoByte := by kernel_rfl
  cellsByte := by kernel_rfl
  sizeByte := by kernel_rfl
  neB5 := by decide
theorem join_any {w : World} {a : Option Addr} {N : List ByteArray} {c : Nat} (hN : IsN w a N) (hc : N.length ≤ c) (hl : N.length ≤ 1000000) (hj : (Lib.join (N.map (·.data.toList)) [47]).length ≤ 1000000) :
    Calls Tryd.prog 17 #[.slice a N.length c, .string ⟨#[47]⟩] w fun e w' => e = .returned (.string (bsL (Lib.join (N.map (·.data.toList)) [47]))) ∧ Below w.heap.size w w' := by
  rcases hN with rfl | ⟨g, o, rfl, hg, hcs⟩
  · refine (Any.strings_Join_none Tryd.joinA bx_join a c ⟨#[47]⟩ w).mono ?_
    rintro e w' ⟨rfl, rfl⟩
    exact ⟨rfl, Below.refl _ _⟩
  · exact Any.strings_Join Tryd.joinA bx_join g o c N ⟨#[47]⟩ w hcs hg (by omega) hc (by show (Lib.join (N.map (·.data.toList)) [47]).length ≤ _; omega)
theorem bs_cat (a b : List UInt8) : bsL a ++ bsL b = bsL (a ++ b) := by
  apply ba_ext
  rw [bsL_data]
  show (ByteArray.append (bsL a) (bsL b)).data.toList = _
  rw [show ByteArray.append (bsL a) (bsL b) = bsL a ++ bsL b from rfl]
  simp [bsL]
set_option maxRecDepth 100000 in
set_option maxHeartbeats 4000000 in
theorem oneForm_any {w : World} {a : Option Addr} {N : List ByteArray} {c : Nat} (hN : IsN w a N) (hc : N.length ≤ c) (hG : GoodN N) :
    Calls Tryd.prog 18 #[.slice a N.length c] w fun e w' => e = .returned (.string (bsL (frmL N))) ∧ Below w.heap.size w w' := by
  have hjl := jn_len hG
  have HX : Hid (Calls Tryd.prog 17 #[.slice a N.length c, .string ⟨#[47]⟩] w fun e w' => e = .returned (.string (bsL (Lib.join (N.map (·.data.toList)) [47]))) ∧ Below w.heap.size w w') := join_any hN hc (by have := hG.1; omega) (by omega)
  have he : (⟨#[47]⟩ : ByteArray) ++ bsL (Lib.join (N.map (·.data.toList)) [47]) = bsL (frmL N) := bs_cat [47] _
  have hz : (bsL (Lib.join (N.map (·.data.toList)) [47])).size = (Lib.join (N.map (·.data.toList)) [47]).length := bsL_size _
  generalize bsL (Lib.join (N.map (·.data.toList)) [47]) = p at *
  have hps : p.size ≤ 1824 := by rw [hz]; exact hjl
  have h1 : (⟨#[47]⟩ : ByteArray).size = 1 := rfl
  clear hN hG hz hjl
  generalize bsL (frmL N) = q at *
  go_enter Tryd.func18, Tryd.ntmps18
  go_wp2_with fail
  refine HX.out.mono ?_
  rintro e w9 ⟨rfl, hw9⟩
  go_wp2_with fail
  go_ret
  exact ⟨by first | rfl | rw [he], hw9⟩
end Go.Proofs.YtggacdlnpakehaaDoor

namespace Go.Proofs.YtggacdlnpakehaaDoor
open Go Go.RowKit Go.Shelf
set_option linter.unusedVariables false
set_option linter.unusedSimpArgs false
/-- the text that Clean answers -/
def clnS (l : List UInt8) : ByteArray := if (prs l).2.2.2 = 0 then bsL (frmL (prs l).1) else ⟨#[]⟩
theorem own_cap {w : World} {B n m c : Nat} {a : Option Addr} {t : TypeId} {xs : List Value} (h : w.ownsRow B t 1 (.slice a m c) n xs) : n ≤ c := by
  rcases h.2 with ⟨hv, hn⟩ | ⟨g, cap, cur, hv, _, _, hc, _⟩
  · omega
  · cases hv; exact hc
/-- Parse told in single things -/
theorem parse_at (s : ByteArray) {N : List ByteArray} {d : Bool} {i : Nat} {z : Int} (hp : prs s.data.toList = (N, d, i, z)) (w : World) : Calls Tryd.prog 7 #[.string s] w fun e w' => ∃ (a : Option Addr) (c : Nat), e = .returned (.tuple #[.agg #[.slice a N.length c, .bool d], .int .i64 (i : Int), .int .i64 z]) ∧ w'.ownsRow w.heap.size 9 1 (.slice a N.length c) N.length (N.map Value.string) ∧ Below w.heap.size w w' := by
  refine (parse_any s w).mono ?_
  rintro e w' ⟨v, he, ho, hb⟩
  rw [hp] at he ho
  obtain ⟨a, c, rfl⟩ := kown_slice ho
  exact ⟨a, c, he, ho, hb⟩
set_option maxRecDepth 100000 in
set_option maxHeartbeats 4000000 in
theorem clean_any (s : ByteArray) (w : World) : Calls Tryd.prog 9 #[.string s] w fun e w' => e = .returned (.tuple #[.string (clnS s.data.toList), .int .i64 (prs s.data.toList).2.2.2]) ∧ Below w.heap.size w w' := by
  obtain ⟨N, d, i, z, hp⟩ : ∃ N d i z, prs s.data.toList = (N, d, i, z) := ⟨_, _, _, _, rfl⟩
  have hG : GoodN N := by have := good_prs s.data.toList; rwa [hp] at this
  unfold clnS
  rw [hp]
  have HX : Hid (∀ w : World, Calls Tryd.prog 7 #[.string s] w fun e w' => ∃ (a : Option Addr) (c : Nat), e = .returned (.tuple #[.agg #[.slice a N.length c, .bool d], .int .i64 (i : Int), .int .i64 z]) ∧ w'.ownsRow w.heap.size 9 1 (.slice a N.length c) N.length (N.map Value.string) ∧ Below w.heap.size w w') := fun w => parse_at s hp w
  have HG : Hid (GoodN N) := hG
  clear hp hG
  by_cases hz : z = 0
  · subst hz
    rw [if_pos (show (N, d, i, (0 : Int)).2.2.2 = 0 from rfl)]
    generalize hq : bsL (frmL (N, d, i, (0 : Int)).1) = q
    have HQ : Hid (bsL (frmL N) = q) := hq
    clear hq
    show Calls _ _ _ _ fun e w' => e = .returned (.tuple #[.string q, .int .i64 0]) ∧ _
    go_enter Tryd.func9, Tryd.ntmps9
    go_wp2_with fail
    refine (HX.out _).mono ?_
    rintro e w1 ⟨a, c, rfl, ho, hb⟩
    have hb2 : Below w1.heap.size w1 (w1.alloc (.cells #[.slice a N.length c, .bool d] 30)) := (Below.refl _ w1).alloc (Nat.le_refl _) _
    have HF : Hid (Calls Tryd.prog 18 #[.slice a N.length c] (w1.alloc (.cells #[.slice a N.length c, .bool d] 30)) fun e w' => e = .returned (.string q) ∧ Below (w1.alloc (.cells #[.slice a N.length c, .bool d] 30)).heap.size (w1.alloc (.cells #[.slice a N.length c, .bool d] 30)) w') := by
      have := oneForm_any (c := c) (own_isN (kown_below ho hb2)) (own_cap ho) HG.out
      rwa [HQ.out] at this
    have HB : Hid (Below w.heap.size w (w1.alloc (.cells #[.slice a N.length c, .bool d] 30))) := hb.trans (hb2.mono hb.size)
    clear ho hb hb2
    go_wp2_with fail
    refine HF.out.mono ?_
    rintro e w3 ⟨rfl, hb3⟩
    go_wp2_with fail
    go_ret2
    exact ⟨rfl, HB.out.trans (hb3.mono HB.out.size)⟩
  · rw [if_neg (show ¬ (N, d, i, z).2.2.2 = 0 from hz)]
    show Calls _ _ _ _ fun e w' => e = .returned (.tuple #[.string ⟨#[]⟩, .int .i64 z]) ∧ _
    go_enter Tryd.func9, Tryd.ntmps9
    go_wp2_with fail
    refine (HX.out _).mono ?_
    rintro e w1 ⟨a, c, rfl, ho, hb⟩
    have hb2 : Below w1.heap.size w1 (w1.alloc (.cells #[.slice a N.length c, .bool d] 30)) := (Below.refl _ w1).alloc (Nat.le_refl _) _
    have HB : Hid (Below w.heap.size w (w1.alloc (.cells #[.slice a N.length c, .bool d] 30))) := hb.trans (hb2.mono hb.size)
    clear ho hb hb2
    go_wp2_with fail
    go_ret2
    exact ⟨rfl, HB.out⟩
end Go.Proofs.YtggacdlnpakehaaDoor

namespace Go.Proofs.YtggacdlnpakehaaDoor
open Go Go.RowKit Go.Shelf
set_option linter.unusedVariables false
set_option linter.unusedSimpArgs false
/-- how many names both begin with -/
def cmN : List ByteArray → List ByteArray → Nat
  | x :: a, y :: b => if x = y then cmN a b + 1 else 0
  | [], _ => 0
  | _ :: _, [] => 0
theorem cmN_le : ∀ a b : List ByteArray, cmN a b ≤ a.length ∧ cmN a b ≤ b.length
  | [], b => by simp [cmN]
  | x :: a, [] => by simp [cmN]
  | x :: a, y :: b => by
    have := cmN_le a b
    unfold cmN
    split
    · simp only [List.length_cons]; omega
    · simp
theorem cmN_is : ∀ (a b : List ByteArray) (k : Nat), k ≤ a.length → k ≤ b.length → (∀ j, j < k → a[j]? = b[j]?) → (k = a.length ∨ k = b.length ∨ a[k]? ≠ b[k]?) → cmN a b = k
  | [], b, k, h1, h2, h3, h4 => by
    simp only [List.length_nil, Nat.le_zero] at h1
    simp [cmN, h1]
  | x :: a, [], k, h1, h2, h3, h4 => by
    simp only [List.length_nil, Nat.le_zero] at h2
    simp [cmN, h2]
  | x :: a, y :: b, 0, h1, h2, h3, h4 => by
    have : x ≠ y := by
      rcases h4 with h | h | h
      · simp at h
      · simp at h
      · intro e; exact h (by rw [e]; simp)
    simp [cmN, this]
  | x :: a, y :: b, k + 1, h1, h2, h3, h4 => by
    have e : x = y := by have := h3 0 (by omega); simpa using this
    have ih := cmN_is a b k (by simpa using h1) (by simpa using h2) (fun j hj => by have := h3 (j + 1) (by omega); simpa using this) (by
      rcases h4 with h | h | h
      · left; simpa using h
      · right; left; simpa using h
      · right; right; simpa using h)
    simp [cmN, e, ih]
set_option maxRecDepth 100000 in
set_option maxHeartbeats 4000000 in
theorem shared_any {w : World} {a b : Option Addr} {c d : Nat} {N M : List ByteArray} (hN : IsN w a N) (hM : IsN w b M) (h1 : N.length ≤ 9223372036854775807) (h2 : M.length ≤ 9223372036854775807) :
    Calls Tryd.prog 15 #[.slice a N.length c, .slice b M.length d] w fun e w' => e = .returned (.int .i64 (cmN N M : Int)) ∧ ∃ n, w' = w.drewN n := by
  obtain ⟨r, hr⟩ : ∃ r, cmN N M = r := ⟨_, rfl⟩
  rw [hr]
  have HR : Hid (cmN N M = r) := hr
  obtain ⟨n, hn⟩ : ∃ n, N.length = n := ⟨_, rfl⟩
  obtain ⟨m, hm⟩ : ∃ m, M.length = m := ⟨_, rfl⟩
  rw [hn] at h1 ⊢
  rw [hm] at h2 ⊢
  have HL : Hid (N.length = n ∧ M.length = m) := ⟨hn, hm⟩
  have HN : Hid (IsN w a N) := hN
  have HM : Hid (IsN w b M) := hM
  clear hr hn hm hN hM
  obtain ⟨k, hk⟩ : ∃ k, min n m = k := ⟨_, rfl⟩
  have hmin : min (n : Int) (m : Int) = (k : Int) := by omega
  have hkn : k ≤ n := by omega
  have hkm : k ≤ m := by omega
  have HK : Hid (k = n ∨ k = m) := by show _ ∨ _; omega
  clear hk
  go_enter Tryd.func15, Tryd.ntmps15
  go_wp2_with fail
  go_loopw [5] (fun v wr => Hid (∃ i : Nat, i ≤ k ∧ v = .int .i64 (i : Int) ∧ (∀ j, j < i → N[j]? = M[j]?) ∧ ∃ q, wr = w.drewN q)) (fun v wr => k - (intOf v).toNat)
  case atStart => exact ⟨0, by omega, rfl, fun j hj => by omega, 0, rfl⟩
  case round =>
    obtain ⟨i, hin, rfl, hcl, q, rfl⟩ := Hid.out hrel
    have HCL : Hid (∀ j, j < i → N[j]? = M[j]?) := hcl
    clear hrel hcl
    by_cases hi : i < k
    · have hiz : (i : Int) < (k : Int) := by omega
      have hi0 : (0 : Int) ≤ (i : Int) := by omega
      have hin1 : (i : Int) < (n : Int) := by omega
      have him1 : (i : Int) < (m : Int) := by omega
      have hin2 : i < N.length := by rw [HL.out.1]; omega
      have him2 : i < M.length := by rw [HL.out.2]; omega
      obtain ⟨g, o, rfl, hg, hc⟩ := HN.out.at (j := i) hin2
      obtain ⟨g2, o2, rfl, hg2, hc2⟩ := HM.out.at (j := i) him2
      obtain ⟨x, hx⟩ : ∃ x, N[i]'hin2 = x := ⟨_, rfl⟩
      obtain ⟨y, hy⟩ : ∃ y, M[i]'him2 = y := ⟨_, rfl⟩
      rw [hx] at hc
      rw [hy] at hc2
      have HXY : Hid (N[i]? = some x ∧ M[i]? = some y) := ⟨by rw [← hx]; exact List.getElem?_eq_getElem _, by rw [← hy]; exact List.getElem?_eq_getElem _⟩
      clear hx hy hin2 him2
      by_cases hxy : x = y
      · subst hxy
        have ht : (x.toList == x.toList) = true := by simp
        have HS : Hid (∀ j, j < i + 1 → N[j]? = M[j]?) := fun j hj => by
          rcases Nat.lt_succ_iff_lt_or_eq.1 hj with h | rfl
          · exact HCL.out j h
          · rw [HXY.out.1, HXY.out.2]
        go_wp2_with fail
        go_region
        go_wp2_with fail
        refine ⟨⟨i + 1, by omega, by first | rfl | simp, HS.out, q + 1, rfl⟩, ?_⟩
        simp only [intOf]
        omega
      · have ht : (x.toList == y.toList) = false := by
          rw [beq_eq_false_iff_ne]
          intro e
          rw [Lib.toList_data, Lib.toList_data] at e
          exact hxy (ba_ext e)
        have HE : Hid (r = i) := by
          show r = i
          rw [← HR.out]
          refine cmN_is N M i (by rw [HL.out.1]; omega) (by rw [HL.out.2]; omega) HCL.out (.inr (.inr ?_))
          rw [HXY.out.1, HXY.out.2]
          intro e
          injection e with e
          exact hxy e
        clear hxy
        go_wp2_with fail
        go_region
        go_wp2_with fail
        go_ret
        exact ⟨by rw [HE.out]; rfl, q + 1, rfl⟩
    · obtain rfl : i = k := by omega
      have hiz : ¬ (i : Int) < (i : Int) := by omega
      have HE : Hid (r = i) := by
        show r = i
        rw [← HR.out]
        refine cmN_is N M i (by rw [HL.out.1]; omega) (by rw [HL.out.2]; omega) HCL.out ?_
        rcases HK.out with h | h
        · exact .inl (h.trans HL.out.1.symm)
        · exact .inr (.inl (h.trans HL.out.2.symm))
      go_wp2_with fail
      go_region
      go_wp2_with fail
      go_ret
      exact ⟨by rw [HE.out]; rfl, q + 1, rfl⟩
/-- the names of two paths, told in single things -/
theorem both_bad1 (s t : ByteArray) (hz : (prs s.data.toList).2.2.2 ≠ 0) (w : World) : Calls Tryd.prog 14 #[.string s, .string t] w fun e w' => e = .returned (.tuple #[.slice none 0 0, .slice none 0 0, .int .i64 (prs s.data.toList).2.2.2]) ∧ Below w.heap.size w w' := by
  obtain ⟨N, d, i, z, hp⟩ : ∃ N d i z, prs s.data.toList = (N, d, i, z) := ⟨_, _, _, _, rfl⟩
  rw [hp] at hz ⊢
  have hz : z ≠ 0 := hz
  show Calls _ _ _ _ fun e w' => e = .returned (.tuple #[.slice none 0 0, .slice none 0 0, .int .i64 z]) ∧ _
  have HX := parse_at s hp
  clear hp
  go_enter Tryd.func14, Tryd.ntmps14
  go_wp2_with fail
  refine (HX _).mono ?_
  rintro e w1 ⟨a, c, rfl, ho, hb⟩
  have hB := hb.alloc hb.size (.cells #[.slice a N.length c, .bool d] 30)
  clear ho hb
  go_wp2_with fail
  go_ret3
  exact ⟨rfl, hB⟩
set_option maxHeartbeats 1000000 in
theorem both_bad2 (s t : ByteArray) (hz : (prs s.data.toList).2.2.2 = 0) (hz2 : (prs t.data.toList).2.2.2 ≠ 0) (w : World) : Calls Tryd.prog 14 #[.string s, .string t] w fun e w' => e = .returned (.tuple #[.slice none 0 0, .slice none 0 0, .int .i64 (prs t.data.toList).2.2.2]) ∧ Below w.heap.size w w' := by
  obtain ⟨N, d, i, z, hp⟩ : ∃ N d i z, prs s.data.toList = (N, d, i, z) := ⟨_, _, _, _, rfl⟩
  obtain ⟨M, d2, i2, z2, hp2⟩ : ∃ M d2 i2 z2, prs t.data.toList = (M, d2, i2, z2) := ⟨_, _, _, _, rfl⟩
  rw [hp] at hz
  rw [hp2] at hz2 ⊢
  have hz : z = 0 := hz
  have hz2 : z2 ≠ 0 := hz2
  subst hz
  show Calls _ _ _ _ fun e w' => e = .returned (.tuple #[.slice none 0 0, .slice none 0 0, .int .i64 z2]) ∧ _
  have HX := parse_at s hp
  have HY := parse_at t hp2
  clear hp hp2
  go_enter Tryd.func14, Tryd.ntmps14
  go_wp2_with fail
  refine (HX _).mono ?_
  rintro e w1 ⟨a, c, rfl, ho, hb⟩
  have hB := hb.alloc hb.size (.cells #[.slice a N.length c, .bool d] 30)
  clear ho hb
  go_wp2_with fail
  generalize w1.alloc (.cells #[.slice a N.length c, .bool d] 30) = w2 at *
  refine (HY _).mono ?_
  rintro e w3 ⟨a3, c3, rfl, ho3, hb3⟩
  have hB3 := (hB.trans (hb3.mono hB.size)).alloc (Nat.le_trans hB.size hb3.size) (.cells #[.slice a3 M.length c3, .bool d2] 30)
  clear ho3 hb3
  go_wp2_with fail
  go_ret3
  exact ⟨rfl, hB3⟩
set_option maxHeartbeats 1000000 in
theorem both_ok (s t : ByteArray) {N M : List ByteArray} {d d2 : Bool} {i i2 : Nat} (hp : prs s.data.toList = (N, d, i, 0)) (hp2 : prs t.data.toList = (M, d2, i2, 0)) (w : World) : Calls Tryd.prog 14 #[.string s, .string t] w fun e w' => ∃ (a : Option Addr) (c : Nat) (b : Option Addr) (c2 : Nat), e = .returned (.tuple #[.slice a N.length c, .slice b M.length c2, .int .i64 0]) ∧ w'.ownsRow w.heap.size 9 1 (.slice a N.length c) N.length (N.map Value.string) ∧ w'.ownsRow w.heap.size 9 1 (.slice b M.length c2) M.length (M.map Value.string) ∧ Below w.heap.size w w' := by
  have HX := parse_at s hp
  have HY := parse_at t hp2
  clear hp hp2
  go_enter Tryd.func14, Tryd.ntmps14
  go_wp2_with fail
  refine (HX _).mono ?_
  rintro e w1 ⟨a, c, rfl, ho, hb⟩
  have hB := hb.alloc hb.size (.cells #[.slice a N.length c, .bool d] 30)
  have hO := ho.alloc (.cells #[.slice a N.length c, .bool d] 30)
  have k1 := Blk.new w1 30 #[.slice a N.length c, .bool d]
  clear ho hb
  go_wp2_with fail
  generalize w1.alloc (.cells #[.slice a N.length c, .bool d] 30) = w2 at *
  generalize w1.heap.size = gp at *
  refine (HY _).mono ?_
  rintro e w3 ⟨a3, c3, rfl, ho3, hb3⟩
  have k3 := (k1.below hb3 k1.lt).alloc (.cells #[.slice a3 M.length c3, .bool d2] 30)
  have q3 := Blk.new w3 30 #[.slice a3 M.length c3, .bool d2]
  have hB3 := (hB.trans (hb3.mono hB.size)).alloc (Nat.le_trans hB.size hb3.size) (.cells #[.slice a3 M.length c3, .bool d2] 30)
  have hO3 := (kown_below hO hb3).alloc (.cells #[.slice a3 M.length c3, .bool d2] 30)
  have hP3 := kown_mono (ho3.alloc (.cells #[.slice a3 M.length c3, .bool d2] 30)) hB.size
  have c0 := k3.cell 0
  have c1 := q3.cell 0
  have HI : Hid (_ ∧ _ ∧ _) := ⟨hB3, hO3, hP3⟩
  clear ho3 hb3 hB3 hO3 hP3 k3 q3 k1 hO hB
  go_wp2_with fail
  go_region
  go_wp2_with fail
  go_ret3
  obtain ⟨h1, h2, h3⟩ := HI.out
  exact ⟨a, c, a3, c3, rfl, h2.drew, h3.drew, h1.drew⟩
set_option maxHeartbeats 1000000 in
theorem psame_any (s t : ByteArray) (w : World) : Calls Tryd.prog 13 #[.string s, .string t] w fun e w' => e = .returned (.bool (decide ((prs s.data.toList).2.2.2 = 0) && (decide ((prs t.data.toList).2.2.2 = 0) && decide ((prs s.data.toList).1 = (prs t.data.toList).1)))) ∧ Below w.heap.size w w' := by
  by_cases hz : (prs s.data.toList).2.2.2 = 0
  · by_cases hz2 : (prs t.data.toList).2.2.2 = 0
    · obtain ⟨N, d, i, z, hp⟩ : ∃ N d i z, prs s.data.toList = (N, d, i, z) := ⟨_, _, _, _, rfl⟩
      obtain ⟨M, d2, i2, z2, hp2⟩ : ∃ M d2 i2 z2, prs t.data.toList = (M, d2, i2, z2) := ⟨_, _, _, _, rfl⟩
      have hG := (good_prs s.data.toList).1
      have hG2 := (good_prs t.data.toList).1
      rw [decide_eq_true hz, decide_eq_true hz2, Bool.true_and, Bool.true_and]
      rw [hp] at hz hG ⊢
      rw [hp2] at hz2 hG2 ⊢
      obtain rfl : z = 0 := hz
      obtain rfl : z2 = 0 := hz2
      have hG : N.length ≤ 32 := hG
      have hG2 : M.length ≤ 32 := hG2
      show Calls _ _ _ _ fun e w' => e = .returned (.bool (decide (N = M))) ∧ _
      have HX := both_ok s t hp hp2
      obtain ⟨r, hr⟩ : ∃ r, decide (N = M) = r := ⟨_, rfl⟩
      rw [hr]
      have HR : Hid (decide (N = M) = r) := hr
      clear hp hp2 hr
      go_enter Tryd.func13, Tryd.ntmps13
      go_wp2_with fail
      refine (HX _).mono ?_
      rintro e w1 ⟨a, c, b, c2, rfl, ho, ho2, hb⟩
      have HE : Hid (Calls Tryd.prog 26 #[.slice a N.length c, .slice b M.length c2] w1 fun e w' => e = .returned (.bool r) ∧ Below w1.heap.size w1 w') := by
        show Calls _ _ _ _ _
        rcases own_isN ho with rfl | ⟨g, o, rfl, hg, hc⟩
        · refine (Any.slices_Equal_string_empty Tryd.equalA a b c M.length c2 w1 (by omega)).mono ?_
          rintro e w' ⟨rfl, rfl⟩
          refine ⟨?_, Below.refl _ _⟩
          rw [← HR.out]
          cases M <;> simp
        · rcases own_isN ho2 with rfl | ⟨g2, o2, rfl, hg2, hc2⟩
          · by_cases hN0 : N.length = 0
            · have hN0' : N = [] := List.length_eq_zero_iff.1 hN0
              subst hN0'
              refine (Any.slices_Equal_string_empty Tryd.equalA _ b c 0 c2 w1 (by omega)).mono ?_
              rintro e w' ⟨rfl, rfl⟩
              refine ⟨?_, Below.refl _ _⟩
              rw [← HR.out]
              simp
            · refine (Any.slices_Equal_string_lens Tryd.equalA _ b N.length c 0 c2 w1 hN0).mono ?_
              rintro e w' ⟨rfl, rfl⟩
              refine ⟨?_, Below.refl _ _⟩
              rw [← HR.out, decide_eq_false (fun e => hN0 (by rw [e]; rfl))]
          · refine (Any.slices_Equal_string Tryd.equalA g o N.length c g2 o2 M.length c2 N M w1 (Nat.le_refl _) (Nat.le_refl _) (by omega) (by omega) (fun j hj => hc j _ (by simp [List.getElem?_eq_getElem hj])) (fun j hj => hc2 j _ (by simp [List.getElem?_eq_getElem hj]))).mono ?_
            rintro e w' ⟨rfl, q, rfl⟩
            refine ⟨?_, bdrewN (Below.refl _ _) q⟩
            rw [List.take_length, List.take_length, HR.out]
      clear ho ho2
      go_wp2_with fail
      refine HE.out.mono ?_
      rintro e w2 ⟨rfl, hb2⟩
      go_wp2_with fail
      go_ret
      exact ⟨rfl, hb.trans (hb2.mono hb.size)⟩
    · rw [decide_eq_false hz2, Bool.false_and, Bool.and_false]
      have HX := both_bad2 s t hz hz2
      generalize (prs t.data.toList).2.2.2 = z at *
      clear hz
      go_enter Tryd.func13, Tryd.ntmps13
      go_wp2_with fail
      refine (HX _).mono ?_
      rintro e w1 ⟨rfl, hb⟩
      have hzb : (z == 0) = false := by simpa using hz2
      go_wp2_with fail
      go_ret
      exact ⟨rfl, hb⟩
  · rw [decide_eq_false hz, Bool.false_and]
    have HX := both_bad1 s t hz
    generalize (prs s.data.toList).2.2.2 = z at *
    go_enter Tryd.func13, Tryd.ntmps13
    go_wp2_with fail
    refine (HX _).mono ?_
    rintro e w1 ⟨rfl, hb⟩
    have hzb : (z == 0) = false := by simpa using hz
    go_wp2_with fail
    go_ret
    exact ⟨rfl, hb⟩
set_option maxHeartbeats 1000000 in
theorem within_any {w : World} {a b : Option Addr} {c d : Nat} {N M : List ByteArray} (hN : IsN w a N) (hM : IsN w b M) (h1 : N.length ≤ 9223372036854775807) (h2 : M.length ≤ 9223372036854775807) (p q : Bool) :
    Calls Tryd.prog 10 #[.agg #[.slice a N.length c, .bool p], .agg #[.slice b M.length d, .bool q]] w fun e w' => e = .returned (.bool (decide (cmN N M = M.length))) ∧ Below w.heap.size w w' := by
  have hb2 : Below w.heap.size w ((w.alloc (.cells #[.slice a N.length c, .bool p] 30)).alloc (.cells #[.slice b M.length d, .bool q] 30)) := ((Below.refl _ w).alloc (Nat.le_refl _) _).alloc (by simp) _
  have HX : Hid (∀ V, Below w.heap.size w V → Calls Tryd.prog 15 #[.slice a N.length c, .slice b M.length d] V fun e w' => e = .returned (.int .i64 (cmN N M : Int)) ∧ ∃ n, w' = V.drewN n) := fun V hV => shared_any (hN.below hV) (hM.below hV) h1 h2
  have HR : Hid ((((cmN N M : Nat) : Int) == (M.length : Int)) = decide (cmN N M = M.length)) := by
    show (_ == _) = _
    by_cases h : cmN N M = M.length
    · rw [decide_eq_true h, h]; simp
    · rw [decide_eq_false h, beq_eq_false_iff_ne]; omega
  generalize cmN N M = k at *
  obtain ⟨r, hr⟩ : ∃ r, decide (k = M.length) = r := ⟨_, rfl⟩
  rw [hr] at HR ⊢
  have hrr : ((k : Int) == (M.length : Int)) = r := HR.out
  clear hr HR hN hM
  have k1 := (Blk.new w 30 #[.slice a N.length c, .bool p]).alloc (.cells #[.slice b M.length d, .bool q] 30)
  have k2 := Blk.new (w.alloc (.cells #[.slice a N.length c, .bool p] 30)) 30 #[.slice b M.length d, .bool q]
  rw [World.size_alloc] at k2
  have c0 := k1.cell 0
  have c1 := k2.cell 0
  have HK : Hid (_ ∧ _) := ⟨k1, k2⟩
  clear k1 k2
  go_enter Tryd.func10, Tryd.ntmps10
  go_wp2_with fail
  generalize hW : (w.alloc (.cells #[.slice a N.length c, .bool p] 30)).alloc (.cells #[.slice b M.length d, .bool q] 30) = W at *
  clear c0 c1
  refine wp_region_partsS (fun U => Below W.heap.size W U) [([], 0, true), ([], 1, true), ([], 2, true), ([], 3, true), ([], 5, true), ([], 6, true), ([], 7, true), ([], 4, false), ([], 8, false)] [9] [] (by kernel_rfl) (by kernel_rfl) (Below.refl _ _).drew (partsI_yield ?_)
  simp only [List.cons_append, List.nil_append, List.append_nil, List.filterMap_cons, List.filterMap_nil, List.getElem?_toArray, List.getElem?_cons_zero, List.getElem?_cons_succ]
  go_wp2_with fail
  first
    | refine ⟨rfl, _, .pointer (some ⟨w.heap.size, 0, none⟩), rfl, Or.inl ⟨by rfl, fun U hU => by go_simp⟩, partsI_yield ?_⟩
    | refine ⟨rfl, .pointer (some ⟨w.heap.size, 0, none⟩), Or.inl ⟨by rfl, fun U hU => by go_simp⟩, partsI_yield ?_⟩
  simp only [Act.put, List.setIfInBounds_toArray, List.set_cons_zero, List.set_cons_succ]
  simp only [List.cons_append, List.nil_append, List.append_nil, List.filterMap_cons, List.filterMap_nil, List.getElem?_toArray, List.getElem?_cons_zero, List.getElem?_cons_succ]
  go_wp2_with fail
  first
    | refine ⟨rfl, _, .slice a N.length c, rfl, Or.inl ⟨by rfl, fun U hU => by have c1 := (HK.out.1.below hU HK.out.1.lt).cell 0; go_simp⟩, partsI_yield ?_⟩
    | refine ⟨rfl, .slice a N.length c, Or.inl ⟨by rfl, fun U hU => by have c1 := (HK.out.1.below hU HK.out.1.lt).cell 0; go_simp⟩, partsI_yield ?_⟩
  simp only [Act.put, List.setIfInBounds_toArray, List.set_cons_zero, List.set_cons_succ]
  simp only [List.cons_append, List.nil_append, List.append_nil, List.filterMap_cons, List.filterMap_nil, List.getElem?_toArray, List.getElem?_cons_zero, List.getElem?_cons_succ]
  go_wp2_with fail
  first
    | refine ⟨rfl, _, .pointer (some ⟨w.heap.size + 1, 0, none⟩), rfl, Or.inl ⟨by rfl, fun U hU => by go_simp⟩, partsI_yield ?_⟩
    | refine ⟨rfl, .pointer (some ⟨w.heap.size + 1, 0, none⟩), Or.inl ⟨by rfl, fun U hU => by go_simp⟩, partsI_yield ?_⟩
  simp only [Act.put, List.setIfInBounds_toArray, List.set_cons_zero, List.set_cons_succ]
  simp only [List.cons_append, List.nil_append, List.append_nil, List.filterMap_cons, List.filterMap_nil, List.getElem?_toArray, List.getElem?_cons_zero, List.getElem?_cons_succ]
  go_wp2_with fail
  first
    | refine ⟨rfl, _, .slice b M.length d, rfl, Or.inl ⟨by rfl, fun U hU => by have c1 := (HK.out.2.below hU HK.out.2.lt).cell 0; go_simp⟩, partsI_yield ?_⟩
    | refine ⟨rfl, .slice b M.length d, Or.inl ⟨by rfl, fun U hU => by have c1 := (HK.out.2.below hU HK.out.2.lt).cell 0; go_simp⟩, partsI_yield ?_⟩
  simp only [Act.put, List.setIfInBounds_toArray, List.set_cons_zero, List.set_cons_succ]
  simp only [List.cons_append, List.nil_append, List.append_nil, List.filterMap_cons, List.filterMap_nil, List.getElem?_toArray, List.getElem?_cons_zero, List.getElem?_cons_succ]
  go_wp2_with fail
  first
    | refine ⟨rfl, _, .pointer (some ⟨w.heap.size + 1, 0, none⟩), rfl, Or.inl ⟨by rfl, fun U hU => by go_simp⟩, partsI_yield ?_⟩
    | refine ⟨rfl, .pointer (some ⟨w.heap.size + 1, 0, none⟩), Or.inl ⟨by rfl, fun U hU => by go_simp⟩, partsI_yield ?_⟩
  simp only [Act.put, List.setIfInBounds_toArray, List.set_cons_zero, List.set_cons_succ]
  simp only [List.cons_append, List.nil_append, List.append_nil, List.filterMap_cons, List.filterMap_nil, List.getElem?_toArray, List.getElem?_cons_zero, List.getElem?_cons_succ]
  go_wp2_with fail
  first
    | refine ⟨rfl, _, .slice b M.length d, rfl, Or.inl ⟨by rfl, fun U hU => by have c1 := (HK.out.2.below hU HK.out.2.lt).cell 0; go_simp⟩, partsI_yield ?_⟩
    | refine ⟨rfl, .slice b M.length d, Or.inl ⟨by rfl, fun U hU => by have c1 := (HK.out.2.below hU HK.out.2.lt).cell 0; go_simp⟩, partsI_yield ?_⟩
  simp only [Act.put, List.setIfInBounds_toArray, List.set_cons_zero, List.set_cons_succ]
  simp only [List.cons_append, List.nil_append, List.append_nil, List.filterMap_cons, List.filterMap_nil, List.getElem?_toArray, List.getElem?_cons_zero, List.getElem?_cons_succ]
  go_wp2_with fail
  first
    | refine ⟨rfl, _, .int .i64 (M.length : Int), rfl, Or.inl ⟨by rfl, fun U hU => by go_simp⟩, partsI_force ?_⟩
    | refine ⟨rfl, .int .i64 (M.length : Int), Or.inl ⟨by rfl, fun U hU => by go_simp⟩, partsI_force ?_⟩
  simp only [Act.put, List.setIfInBounds_toArray, List.set_cons_zero, List.set_cons_succ]
  simp only [List.cons_append, List.nil_append, List.append_nil, List.filterMap_cons, List.filterMap_nil, List.getElem?_toArray, List.getElem?_cons_zero, List.getElem?_cons_succ]
  go_wp2_with fail
  refine (HX.out _ hb2.drew).mono ?_
  rintro e U1 ⟨rfl, n1, rfl⟩
  have hb3 : Below W.heap.size W (W.drew.drewN n1) := bdrewN (Below.refl _ _).drew n1
  have hb4 : Below w.heap.size w (W.drew.drewN n1) := bdrewN hb2.drew n1
  generalize W.drew.drewN n1 = U1 at *
  go_wp2_with fail
  refine ⟨rfl, hb3, partsI_force ?_⟩
  simp only [List.cons_append, List.nil_append, List.append_nil, List.filterMap_cons, List.filterMap_nil, List.getElem?_toArray, List.getElem?_cons_zero, List.getElem?_cons_succ]
  go_wp2_with fail
  refine ⟨rfl, hb3, partsI_last ?_⟩
  simp only [List.cons_append, List.nil_append, List.append_nil, List.filterMap_cons, List.filterMap_nil, List.getElem?_toArray, List.getElem?_cons_zero, List.getElem?_cons_succ]
  go_wp2_with fail
  refine ⟨rfl, ?_⟩
  go_wp2_with fail
  go_ret
  exact ⟨by simp [hrr], hb4⟩
end Go.Proofs.YtggacdlnpakehaaDoor

namespace Go.Proofs.YtggacdlnpakehaaDoor
open Go Go.RowKit Go.Shelf
set_option linter.unusedVariables false
set_option linter.unusedSimpArgs false
/-- what two paths begin with, as a text, and the error -/
def coR (l l2 : List UInt8) : ByteArray × Int := if (prs l).2.2.2 = 0 then (if (prs l2).2.2.2 = 0 then (bsL (frmL ((prs l).1.take (cmN (prs l).1 (prs l2).1))), 0) else (⟨#[]⟩, (prs l2).2.2.2)) else (⟨#[]⟩, (prs l).2.2.2)
set_option maxRecDepth 100000 in
set_option maxHeartbeats 4000000 in
theorem pcommon_any (s t : ByteArray) (w : World) : Calls Tryd.prog 6 #[.string s, .string t] w fun e w' => e = .returned (.tuple #[.string (coR s.data.toList t.data.toList).1, .int .i64 (coR s.data.toList t.data.toList).2]) ∧ Below w.heap.size w w' := by
  unfold coR
  by_cases hz : (prs s.data.toList).2.2.2 = 0
  · rw [if_pos hz]
    by_cases hz2 : (prs t.data.toList).2.2.2 = 0
    · rw [if_pos hz2]
      obtain ⟨N, d, i, z, hp⟩ : ∃ N d i z, prs s.data.toList = (N, d, i, z) := ⟨_, _, _, _, rfl⟩
      obtain ⟨M, d2, i2, z2, hp2⟩ : ∃ M d2 i2 z2, prs t.data.toList = (M, d2, i2, z2) := ⟨_, _, _, _, rfl⟩
      have hG : GoodN N := by have := good_prs s.data.toList; rwa [hp] at this
      have hG2 : GoodN M := by have := good_prs t.data.toList; rwa [hp2] at this
      rw [hp] at hz ⊢
      rw [hp2] at hz2 ⊢
      obtain rfl : z = 0 := hz
      obtain rfl : z2 = 0 := hz2
      have HX := both_ok s t hp hp2
      obtain ⟨k, hk⟩ : ∃ k, cmN N M = k := ⟨_, rfl⟩
      have hkl := cmN_le N M
      rw [hk] at hkl
      obtain ⟨q, hq⟩ : ∃ q, bsL (frmL (N.take k)) = q := ⟨_, rfl⟩
      have HQ : Hid (bsL (frmL (N.take k)) = q) := hq
      show Calls _ _ _ _ fun e w' => e = .returned (.tuple #[.string (bsL (frmL (N.take (cmN N M)))), .int .i64 0]) ∧ _
      rw [hk, hq]
      have HK : Hid (cmN N M = k) := hk
      have HG : Hid (GoodN N ∧ GoodN M) := ⟨hG, hG2⟩
      have hNl := hG.1
      have hMl := hG2.1
      clear hp hp2 hk hq hG hG2
      go_enter Tryd.func6, Tryd.ntmps6
      go_wp2_with fail
      refine (HX _).mono ?_
      rintro e w1 ⟨a, c, b, c2, rfl, ho, ho2, hb⟩
      have hcap := own_cap ho
      have HS : Hid (Calls Tryd.prog 15 #[.slice a N.length c, .slice b M.length c2] w1 fun e w' => e = .returned (.int .i64 (k : Int)) ∧ ∃ n, w' = w1.drewN n) := by
        have := shared_any (c := c) (d := c2) (own_isN ho) (own_isN ho2) (by omega) (by omega)
        rwa [HK.out] at this
      have HF : Hid (∀ n, Calls Tryd.prog 18 #[.slice a k c] (w1.drewN n) fun e w' => e = .returned (.string q) ∧ Below (w1.drewN n).heap.size (w1.drewN n) w') := fun n => by
        have hlen : (N.take k).length = k := by rw [List.length_take]; omega
        have := oneForm_any (w := w1.drewN n) (a := a) (N := N.take k) (c := c) (((own_isN ho).take k).dN n) (by rw [hlen]; omega) (HG.out.1.take k)
        rwa [hlen, HQ.out] at this
      have HB : Hid (Below w.heap.size w w1) := hb
      have hk0 : (0 : Int) ≤ (k : Int) := by omega
      have hkc : (k : Int) ≤ (c : Int) := by omega
      clear ho ho2 hb
      go_wp2_with fail
      refine HS.out.mono ?_
      rintro e w2 ⟨rfl, n, rfl⟩
      go_wp2_with fail
      refine (HF.out n).mono ?_
      rintro e w3 ⟨rfl, hb3⟩
      go_wp2_with fail
      go_ret2
      exact ⟨rfl, (bdrewN HB.out n).trans (hb3.mono HB.out.size)⟩
    · rw [if_neg hz2]
      have HX := both_bad2 s t hz hz2
      generalize (prs t.data.toList).2.2.2 = z at *
      have hzb : (z == 0) = false := by simpa using hz2
      have hzn : (z != 0) = true := by simpa using hz2
      clear hz
      go_enter Tryd.func6, Tryd.ntmps6
      go_wp2_with fail
      refine (HX _).mono ?_
      rintro e w1 ⟨rfl, hb⟩
      go_wp2_with fail
      go_ret2
      exact ⟨rfl, hb⟩
  · rw [if_neg hz]
    have HX := both_bad1 s t hz
    generalize (prs s.data.toList).2.2.2 = z at *
    have hzb : (z == 0) = false := by simpa using hz
    have hzn : (z != 0) = true := by simpa using hz
    go_enter Tryd.func6, Tryd.ntmps6
    go_wp2_with fail
    refine (HX _).mono ?_
    rintro e w1 ⟨rfl, hb⟩
    go_wp2_with fail
    go_ret2
    exact ⟨rfl, hb⟩
end Go.Proofs.YtggacdlnpakehaaDoor

namespace Go.Proofs.YtggacdlnpakehaaDoor
open Go Go.RowKit Go.Shelf
set_option linter.unusedVariables false
set_option linter.unusedSimpArgs false
/-- the way from one path to another one, by its parts -/
def wayL (N M : List ByteArray) : List ByteArray := List.replicate (N.length - cmN N M) ⟨#[46, 46]⟩ ++ M.drop (cmN N M)
def wayS (N M : List ByteArray) : ByteArray := if wayL N M = [] then ⟨#[46]⟩ else bsL (Lib.join ((wayL N M).map (·.data.toList)) [47])
theorem acc_app (N M : List ByteArray) : accN (N ++ M) = accN N ++ accN M := by
  unfold accN
  simp [Lib.joinTail]
theorem rep_len (n : Nat) : (accN (List.replicate n (⟨#[46, 46]⟩ : ByteArray))).length = 3 * n := by
  rw [acc_len]
  have h2 : (⟨#[46, 46]⟩ : ByteArray).size = 2 := rfl
  simp [h2]
  omega
/-- the way and the error -/
def reR (l l2 : List UInt8) : ByteArray × Int := if (prs l).2.2.2 = 0 then (if (prs l2).2.2.2 = 0 then (wayS (prs l).1 (prs l2).1, 0) else (⟨#[]⟩, (prs l2).2.2.2)) else (⟨#[]⟩, (prs l).2.2.2)
end Go.Proofs.YtggacdlnpakehaaDoor

namespace Go.Proofs.YtggacdlnpakehaaDoor
open Go Go.RowKit
set_option linter.unusedVariables false
set_option linter.unusedSimpArgs false
theorem name_bytes {l : List UInt8} (h : isName l = true) : ∀ b ∈ l, b ≠ 47 := by
  intro b hb e
  obtain ⟨i, hi, e2⟩ := List.getElem_of_mem hb
  have h2 : has2 l = true := has2_yes (b := b) (by rw [← e2]; exact List.getElem?_eq_getElem hi) (.inr e)
  unfold isName at h
  rw [h2] at h
  simp at h
theorem name_ne {l : List UInt8} (h : isName l = true) : l ≠ [] ∧ l ≠ [46] ∧ l ≠ [46, 46] := by
  refine ⟨?_, ?_, ?_⟩ <;> (intro e; rw [e] at h; revert h; simp [isName])
theorem take_name : ∀ {x : List UInt8} (r : List UInt8), (∀ b ∈ x, b ≠ 47) → (r = [] ∨ ∃ r', r = 47 :: r') → (x ++ r).takeWhile (fun b => b != 47) = x
  | [], r, _, hr => by
    rcases hr with rfl | ⟨r', rfl⟩
    · rfl
    · rfl
  | b :: x, r, h, hr => by
    rw [List.cons_append, List.takeWhile_cons, if_pos (by simpa using h b (by simp)), take_name r (fun c hc => h c (by simp [hc])) hr]
theorem acc_cons (x : ByteArray) (N : List ByteArray) : accN (x :: N) = 47 :: (x.data.toList ++ accN N) := by
  unfold accN
  simp [Lib.joinTail]
theorem acc_head (N : List ByteArray) : accN N = [] ∨ ∃ r, accN N = 47 :: r := by
  cases N with
  | nil => exact .inl rfl
  | cons x N => exact .inr ⟨_, acc_cons x N⟩
theorem run_acc : ∀ (N M : List ByteArray) (d : Bool) (A : List UInt8), (∀ x ∈ N, isName x.data.toList = true) → M.length + N.length ≤ 32 → runP M d (pts (A ++ accN N) A.length) = (M ++ N, (if N = [] then d else false), 0, 0)
  | [], M, d, A, _, _ => by
    rw [pts_end (by simp [accN, Lib.joinTail])]
    simp [runP]
  | x :: N, M, d, A, h, hl => by
    have hx := h x (by simp)
    have e0 : (A ++ accN (x :: N))[A.length]? = some 47 := by
      rw [List.getElem?_append_right (Nat.le_refl _), Nat.sub_self, acc_cons]
      rfl
    have e1 : segL (A ++ accN (x :: N)) (A.length + 1) = x.data.toList := by
      unfold segL
      have e9 : (A ++ accN (x :: N)).drop (A.length + 1) = x.data.toList ++ accN N := by
        rw [acc_cons, List.drop_append, List.drop_eq_nil_of_le (by omega), List.nil_append]
        simp
      rw [e9]
      exact take_name _ (name_bytes hx) (acc_head N)
    have hlt : A.length + 1 < (A ++ accN (x :: N)).length := by
      rw [acc_cons]
      have := (isName_len hx).1
      simp only [List.length_append, List.length_cons]
      omega
    rw [pts_slash e0, pts_part hlt (by rw [e1]; exact (name_ne hx).1), ← pts_behind]
    rw [e1, bsL_of]
    have hb : badE M x = 0 := by
      unfold badE
      rw [if_neg (name_ne hx).2.1, if_neg (name_ne hx).2.2, if_pos hx, if_neg (by simp at hl; omega)]
    rw [runP_good (x := (A.length + 1, x)) hb]
    have hn : nxtN M x = M ++ [x] := by
      unfold nxtN
      rw [if_neg (name_ne hx).2.1, if_neg (name_ne hx).2.2]
    have hd : dirP x = false := by
      unfold dirP
      rw [decide_eq_false (name_ne hx).2.1, decide_eq_false (name_ne hx).2.2]
      rfl
    show runP (nxtN M x) (dirP x) _ = _
    rw [hn, hd]
    have e2 : A ++ accN (x :: N) = (A ++ 47 :: x.data.toList) ++ accN N := by rw [acc_cons]; simp
    have e3 : A.length + 1 + x.data.toList.length = (A ++ 47 :: x.data.toList).length := by simp; omega
    rw [e2, e3, run_acc N (M ++ [x]) false (A ++ 47 :: x.data.toList) (fun y hy => h y (by simp [hy])) (by simp at hl ⊢; omega)]
    simp
theorem end_acc {N : List ByteArray} (h : ∀ x ∈ N, isName x.data.toList = true) (hN : N ≠ []) : endS (accN N) = false := by
  obtain ⟨M, y, rfl⟩ : ∃ M y, N = M ++ [y] := by
    rcases List.eq_nil_or_concat N with h0 | ⟨M, y, e⟩
    · exact absurd h0 hN
    · exact ⟨M, y, by rw [e, List.concat_eq_append]⟩
  have hy := h y (by simp)
  unfold endS
  rw [acc_snoc]
  refine decide_eq_false fun e => ?_
  have hne := (name_ne hy).1
  have hb := name_bytes hy
  rw [List.getLast?_append, List.getLast?_cons, List.getLast?_eq_some_getLast hne] at e
  clear h hN hy
  generalize y.data.toList = l at *
  simp at e
  exact hb _ (List.getLast_mem hne) e
theorem prs_frm {N : List ByteArray} (hG : GoodN N) (hl : (frmL N).length ≤ 1024) : prs (frmL N) = (N, decide (N = []), 0, 0) := by
  by_cases hN : N = []
  · subst hN
    rw [frm_nil, decide_eq_true rfl]
    kernel_rfl
  · rw [decide_eq_false hN]
    rw [frm_acc hN] at hl ⊢
    have hr := run_acc N [] false [] hG.2 (by simpa using hG.1)
    simp only [List.nil_append, List.length_nil, if_neg hN] at hr
    unfold prs
    rw [if_neg (by omega), if_pos (by
      cases N with
      | nil => exact absurd rfl hN
      | cons x N => rw [acc_cons]; rfl), hr]
    simp [end_acc hG.2 hN]
/-- what the parts cost -/
def cost : List (Nat × ByteArray) → Nat
  | [] => 0
  | x :: xs => x.2.size + 1 + cost xs
theorem cost_pts (l : List UInt8) : ∀ (n i : Nat), l.length - i ≤ n → cost (pts l i) ≤ l.length - i + 1
  | 0, i, h => by rw [pts_end (by omega)]; simp [cost]
  | n + 1, i, h => by
    by_cases hi : i < l.length
    · by_cases hs : segL l i = []
      · rw [pts_skip hi hs]
        have := cost_pts l n (i + 1) (by omega)
        omega
      · rw [pts_part hi hs]
        have h1 := cost_pts l n (i + (segL l i).length + 1) (by omega)
        have h2 := segL_le l i
        have h3 : (bsL (segL l i)).size = (segL l i).length := bsL_size _
        simp only [cost, h3]
        by_cases h4 : i + (segL l i).length + 1 ≤ l.length
        · omega
        · rw [pts_end (by omega)]
          simp only [cost]
          omega
    · rw [pts_end (by omega)]
      simp [cost]
theorem acc_drop (N : List ByteArray) : (accN N.dropLast).length ≤ (accN N).length := by
  rcases List.eq_nil_or_concat N with rfl | ⟨M, y, rfl⟩
  · simp
  · rw [List.concat_eq_append, List.dropLast_concat, acc_snoc]
    simp
theorem cost_run : ∀ (xs : List (Nat × ByteArray)) (N : List ByteArray) (d : Bool), (accN (runP N d xs).1).length ≤ (accN N).length + cost xs
  | [], N, d => by simp [runP, cost]
  | x :: xs, N, d => by
    rw [runP]
    by_cases hb : badE N x.2 = 0
    · rw [if_pos hb]
      have h1 := cost_run xs (nxtN N x.2) (dirP x.2)
      have h2 : (accN (nxtN N x.2)).length ≤ (accN N).length + (x.2.size + 1) := by
        unfold nxtN
        split
        · omega
        · split
          · have := acc_drop N; omega
          · rw [acc_snoc, Lib.size_eq]
            simp
      simp only [cost]
      omega
    · rw [if_neg hb]
      show (accN []).length ≤ _
      simp [accN, Lib.joinTail]
theorem frm_short (l : List UInt8) (hz : (prs l).2.2.2 = 0) : (frmL (prs l).1).length ≤ l.length ∧ l.length ≤ 1024 := by
  unfold prs at hz ⊢
  by_cases h1 : 1024 < l.length
  · rw [if_pos h1] at hz; cases hz
  rw [if_neg h1] at hz ⊢
  by_cases h2 : l[0]? = some 47
  · rw [if_pos h2] at hz ⊢
    by_cases h3 : (runP [] false (pts l 0)).2.2.2 = 0
    · rw [if_pos h3]
      refine ⟨?_, by omega⟩
      have hl : 0 < l.length := (List.getElem?_eq_some_iff.1 h2).1
      show (frmL (runP [] false (pts l 0)).1).length ≤ _
      by_cases hN : (runP [] false (pts l 0)).1 = []
      · rw [hN, frm_nil]; exact hl
      · rw [frm_acc hN]
        have h5 := cost_run (pts l 0) [] false
        rw [pts_slash h2] at h5
        have h6 := cost_pts l l.length 1 (by omega)
        rw [← pts_slash h2] at h5 h6
        have h7 : (accN []).length = 0 := rfl
        omega
    · rw [if_neg h3] at hz
      exact absurd hz h3
  · rw [if_neg h2] at hz; cases hz
end Go.Proofs.YtggacdlnpakehaaDoor
