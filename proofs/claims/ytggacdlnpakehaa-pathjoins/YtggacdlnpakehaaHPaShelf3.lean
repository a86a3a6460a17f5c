/-
  DERIVED: THE SHELF's CONTRACTS AT THIS DUMP, IN PLAIN WORDS (tools/lay-plain.mjs out of 'YtggacdlnpakehaaPaShelf3.lean', which tools/lay-shelf.mjs wrote): THE SAME DECLARATIONS UNDER THE SAME NAMES: 'import', 'namespace', 'open', 'def', 'theorem' AND NOTHING ELSE: no command of the shelf's: FOR A HAND-IN. Each laying: the table of numbers ('.._ren') and one theorem, a field a fact of the dump's own or the kernel's comparison; each contract: ONE APPLICATION.
-/
import Derived.Test.YtggacdlnpakehaaHPaRParse
import Derived.Test.YtggacdlnpakehaaHPaForm
import Derived.BigQuiet
import Derived.Deep.QuietTactic
import Derived.Shelf.Bits.Mul64
import Derived.Test.YtggacdlnpakehaaProg

namespace Go.Proofs.Ytggacdlnpakehaa
open Go Go.RowKit Go.Shelf
set_option linter.unusedVariables false
set_option linter.unusedSimpArgs false
set_option maxRecDepth 100000 in
set_option maxHeartbeats 4000000 in
theorem rparse_any (s : ByteArray) (w : World) : Calls Try.prog 14 #[.string s] w fun e w' => PRet s.data.toList w e w' := by
  have hb : Below w.heap.size w (w.alloc (.cells #[.slice none 0 0, .bool false] 38)) := (Below.refl _ w).alloc (Nat.le_refl _) _
  have k0 := Blk.new w 38 #[.slice none 0 0, .bool false]
  have c0 := k0.cell 0
  have c1 := k0.cell 1
  by_cases h1 : s.size ≤ 1024
  · by_cases h2 : s.data.toList[0]? = some 47
    · exact rparse_main s h1 h2 w
    · have hz : (s.size : Int) ≤ 1024 := by omega
      have HR : Hid (PRet s.data.toList w (.returned (.tuple #[.agg #[.slice none 0 0, .bool false], .int .i64 ((0 : Nat) : Int), .int .i64 180])) (w.alloc (.cells #[.slice none 0 0, .bool false] 38))) := by
        refine pret_of (N := []) ?_ (World.ownsRow_nil _ _ _ _) hb
        unfold prs
        rw [if_neg (by rw [← Lib.size_eq]; omega), if_neg h2]
      have htl : s.toList = s.data.toList := Lib.toList_data s
      by_cases h3 : s.data.toList = []
      · have t0 : s.toList = [] := htl.trans h3
        have q0 : s.toList.isEmpty = true := by rw [t0]; rfl
        clear h2 h3 htl
        go_enter Try.func14, Try.ntmps14
        go_wp2_with fail
        generalize w.alloc (.cells #[.slice none 0 0, .bool false] 38) = Wf at *
        refine bodyPost_ret (v := .tuple #[.agg #[.slice none 0 0, .bool false], .int .i64 0, .int .i64 180]) ?_ rfl HR.out
        simp [results, Try.f14, go_sem, c0, c1]
      · have t0 : ¬ s.toList = [] := by rw [htl]; exact h3
        have q0 : s.toList.isEmpty = false := by simpa using t0
        have hpos : 0 < s.size := by rw [Lib.size_eq]; exact List.length_pos_iff.2 h3
        have x0 := Lib.data_getElem? s 0 hpos
        have x1 : (s[0]'hpos) ≠ 47 := fun e => h2 (by rw [x0, e])
        have b1 : (((s[0]'hpos).toNat : Int) == 47) = false := ubeq_ne x1
        have b2 : ¬ ((s[0]'hpos).toNat : Int) = 47 := by simpa using b1
        clear h2 h3 htl x0 x1
        go_enter Try.func14, Try.ntmps14
        go_wp2_with fail
        generalize w.alloc (.cells #[.slice none 0 0, .bool false] 38) = Wf at *
        refine bodyPost_ret (v := .tuple #[.agg #[.slice none 0 0, .bool false], .int .i64 0, .int .i64 180]) ?_ rfl HR.out
        simp [results, Try.f14, go_sem, c0, c1]
  · have hz : (1024 : Int) < (s.size : Int) := by omega
    have HR : Hid (PRet s.data.toList w (.returned (.tuple #[.agg #[.slice none 0 0, .bool false], .int .i64 ((1024 : Nat) : Int), .int .i64 181])) (w.alloc (.cells #[.slice none 0 0, .bool false] 38))) := by
      refine pret_of (N := []) ?_ (World.ownsRow_nil _ _ _ _) hb
      unfold prs
      rw [if_pos (by rw [← Lib.size_eq]; omega)]
    go_enter Try.func14, Try.ntmps14
    go_wp2_with fail
    generalize w.alloc (.cells #[.slice none 0 0, .bool false] 38) = Wf at *
    refine bodyPost_ret (v := .tuple #[.agg #[.slice none 0 0, .bool false], .int .i64 1024, .int .i64 181]) ?_ rfl HR.out
    simp [results, Try.f14, go_sem, c0, c1]
end Go.Proofs.Ytggacdlnpakehaa

namespace Go.Proofs.Ytggacdlnpakehaa
open Go Go.RowKit Go.Shelf
set_option linter.unusedVariables false
set_option linter.unusedSimpArgs false
/-- the text that Clean answers -/
def clnS (l : List UInt8) : ByteArray := if (prs l).2.2.2 = 0 then bsL (frmL (prs l).1) else ⟨#[]⟩
theorem own_cap {w : World} {B n m c : Nat} {a : Option Addr} {t : TypeId} {xs : List Value} (h : w.ownsRow B t 1 (.slice a m c) n xs) : n ≤ c := by
  rcases h.2 with ⟨hv, hn⟩ | ⟨g, cap, cur, hv, _, _, hc, _⟩
  · omega
  · cases hv; exact hc
/-- Parse told in single things -/
theorem parse_at (s : ByteArray) {N : List ByteArray} {d : Bool} {i : Nat} {z : Int} (hp : prs s.data.toList = (N, d, i, z)) (w : World) : Calls Try.prog 11 #[.string s] w fun e w' => ∃ (a : Option Addr) (c : Nat), e = .returned (.tuple #[.agg #[.slice a N.length c, .bool d], .int .i64 (i : Int), .int .i64 z]) ∧ w'.ownsRow w.heap.size 9 1 (.slice a N.length c) N.length (N.map Value.string) ∧ Below w.heap.size w w' := by
  refine (parse_any s w).mono ?_
  rintro e w' ⟨v, he, ho, hb⟩
  rw [hp] at he ho
  obtain ⟨a, c, rfl⟩ := kown_slice ho
  exact ⟨a, c, he, ho, hb⟩
theorem rparse_at (s : ByteArray) {N : List ByteArray} {d : Bool} {i : Nat} {z : Int} (hp : prs s.data.toList = (N, d, i, z)) (w : World) : Calls Try.prog 14 #[.string s] w fun e w' => ∃ (a : Option Addr) (c : Nat), e = .returned (.tuple #[.agg #[.slice a N.length c, .bool d], .int .i64 (i : Int), .int .i64 z]) ∧ w'.ownsRow w.heap.size 9 1 (.slice a N.length c) N.length (N.map Value.string) ∧ Below w.heap.size w w' := by
  refine (rparse_any s w).mono ?_
  rintro e w' ⟨v, he, ho, hb⟩
  rw [hp] at he ho
  obtain ⟨a, c, rfl⟩ := kown_slice ho
  exact ⟨a, c, he, ho, hb⟩
set_option maxRecDepth 100000 in
set_option maxHeartbeats 4000000 in
theorem clean_any (s : ByteArray) (w : World) : Calls Try.prog 13 #[.string s] w fun e w' => e = .returned (.tuple #[.string (clnS s.data.toList), .int .i64 (prs s.data.toList).2.2.2]) ∧ Below w.heap.size w w' := by
  obtain ⟨N, d, i, z, hp⟩ : ∃ N d i z, prs s.data.toList = (N, d, i, z) := ⟨_, _, _, _, rfl⟩
  have hG : GoodN N := by have := good_prs s.data.toList; rwa [hp] at this
  unfold clnS
  rw [hp]
  have HX : Hid (∀ w : World, Calls Try.prog 11 #[.string s] w fun e w' => ∃ (a : Option Addr) (c : Nat), e = .returned (.tuple #[.agg #[.slice a N.length c, .bool d], .int .i64 (i : Int), .int .i64 z]) ∧ w'.ownsRow w.heap.size 9 1 (.slice a N.length c) N.length (N.map Value.string) ∧ Below w.heap.size w w') := fun w => parse_at s hp w
  have HG : Hid (GoodN N) := hG
  clear hp hG
  by_cases hz : z = 0
  · subst hz
    rw [if_pos (show (N, d, i, (0 : Int)).2.2.2 = 0 from rfl)]
    generalize hq : bsL (frmL (N, d, i, (0 : Int)).1) = q
    have HQ : Hid (bsL (frmL N) = q) := hq
    clear hq
    show Calls _ _ _ _ fun e w' => e = .returned (.tuple #[.string q, .int .i64 0]) ∧ _
    go_enter Try.func13, Try.ntmps13
    go_wp2_with fail
    refine (HX.out _).mono ?_
    rintro e w1 ⟨a, c, rfl, ho, hb⟩
    have hb2 : Below w1.heap.size w1 (w1.alloc (.cells #[.slice a N.length c, .bool d] 33)) := (Below.refl _ w1).alloc (Nat.le_refl _) _
    have HF : Hid (Calls Try.prog 21 #[.slice a N.length c] (w1.alloc (.cells #[.slice a N.length c, .bool d] 33)) fun e w' => e = .returned (.string q) ∧ Below (w1.alloc (.cells #[.slice a N.length c, .bool d] 33)).heap.size (w1.alloc (.cells #[.slice a N.length c, .bool d] 33)) w') := by
      have := oneForm_any (c := c) (own_isN (kown_below ho hb2)) (own_cap ho) HG.out
      rwa [HQ.out] at this
    have HB : Hid (Below w.heap.size w (w1.alloc (.cells #[.slice a N.length c, .bool d] 33))) := hb.trans (hb2.mono hb.size)
    clear ho hb hb2
    go_wp2_with fail
    refine HF.out.mono ?_
    rintro e w3 ⟨rfl, hb3⟩
    go_wp2_with fail
    go_ret2
    exact ⟨rfl, HB.out.trans (hb3.mono HB.out.size)⟩
  · rw [if_neg (show ¬ (N, d, i, z).2.2.2 = 0 from hz)]
    show Calls _ _ _ _ fun e w' => e = .returned (.tuple #[.string ⟨#[]⟩, .int .i64 z]) ∧ _
    go_enter Try.func13, Try.ntmps13
    go_wp2_with fail
    refine (HX.out _).mono ?_
    rintro e w1 ⟨a, c, rfl, ho, hb⟩
    have hb2 : Below w1.heap.size w1 (w1.alloc (.cells #[.slice a N.length c, .bool d] 33)) := (Below.refl _ w1).alloc (Nat.le_refl _) _
    have HB : Hid (Below w.heap.size w (w1.alloc (.cells #[.slice a N.length c, .bool d] 33))) := hb.trans (hb2.mono hb.size)
    clear ho hb hb2
    go_wp2_with fail
    go_ret2
    exact ⟨rfl, HB.out⟩
end Go.Proofs.Ytggacdlnpakehaa

namespace Go.Proofs.Ytggacdlnpakehaa
open Go Go.RowKit Go.Shelf
set_option linter.unusedVariables false
set_option linter.unusedSimpArgs false
/-- how many names both begin with -/
def cmN : List ByteArray → List ByteArray → Nat
  | x :: a, y :: b => if x = y then cmN a b + 1 else 0
  | [], _ => 0
  | _ :: _, [] => 0
theorem cmN_le : ∀ a b : List ByteArray, cmN a b ≤ a.length ∧ cmN a b ≤ b.length
  | [], b => by simp [cmN]
  | x :: a, [] => by simp [cmN]
  | x :: a, y :: b => by
    have := cmN_le a b
    unfold cmN
    split
    · simp only [List.length_cons]; omega
    · simp
theorem cmN_is : ∀ (a b : List ByteArray) (k : Nat), k ≤ a.length → k ≤ b.length → (∀ j, j < k → a[j]? = b[j]?) → (k = a.length ∨ k = b.length ∨ a[k]? ≠ b[k]?) → cmN a b = k
  | [], b, k, h1, h2, h3, h4 => by
    simp only [List.length_nil, Nat.le_zero] at h1
    simp [cmN, h1]
  | x :: a, [], k, h1, h2, h3, h4 => by
    simp only [List.length_nil, Nat.le_zero] at h2
    simp [cmN, h2]
  | x :: a, y :: b, 0, h1, h2, h3, h4 => by
    have : x ≠ y := by
      rcases h4 with h | h | h
      · simp at h
      · simp at h
      · intro e; exact h (by rw [e]; simp)
    simp [cmN, this]
  | x :: a, y :: b, k + 1, h1, h2, h3, h4 => by
    have e : x = y := by have := h3 0 (by omega); simpa using this
    have ih := cmN_is a b k (by simpa using h1) (by simpa using h2) (fun j hj => by have := h3 (j + 1) (by omega); simpa using this) (by
      rcases h4 with h | h | h
      · left; simpa using h
      · right; left; simpa using h
      · right; right; simpa using h)
    simp [cmN, e, ih]
set_option maxRecDepth 100000 in
set_option maxHeartbeats 4000000 in
theorem shared_any {w : World} {a b : Option Addr} {c d : Nat} {N M : List ByteArray} (hN : IsN w a N) (hM : IsN w b M) (h1 : N.length ≤ 9223372036854775807) (h2 : M.length ≤ 9223372036854775807) :
    Calls Try.prog 17 #[.slice a N.length c, .slice b M.length d] w fun e w' => e = .returned (.int .i64 (cmN N M : Int)) ∧ ∃ n, w' = w.drewN n := by
  obtain ⟨r, hr⟩ : ∃ r, cmN N M = r := ⟨_, rfl⟩
  rw [hr]
  have HR : Hid (cmN N M = r) := hr
  obtain ⟨n, hn⟩ : ∃ n, N.length = n := ⟨_, rfl⟩
  obtain ⟨m, hm⟩ : ∃ m, M.length = m := ⟨_, rfl⟩
  rw [hn] at h1 ⊢
  rw [hm] at h2 ⊢
  have HL : Hid (N.length = n ∧ M.length = m) := ⟨hn, hm⟩
  have HN : Hid (IsN w a N) := hN
  have HM : Hid (IsN w b M) := hM
  clear hr hn hm hN hM
  obtain ⟨k, hk⟩ : ∃ k, min n m = k := ⟨_, rfl⟩
  have hmin : min (n : Int) (m : Int) = (k : Int) := by omega
  have hkn : k ≤ n := by omega
  have hkm : k ≤ m := by omega
  have HK : Hid (k = n ∨ k = m) := by show _ ∨ _; omega
  clear hk
  go_enter Try.func17, Try.ntmps17
  go_wp2_with fail
  go_loopw [5] (fun v wr => Hid (∃ i : Nat, i ≤ k ∧ v = .int .i64 (i : Int) ∧ (∀ j, j < i → N[j]? = M[j]?) ∧ ∃ q, wr = w.drewN q)) (fun v wr => k - (intOf v).toNat)
  case atStart => exact ⟨0, by omega, rfl, fun j hj => by omega, 0, rfl⟩
  case round =>
    obtain ⟨i, hin, rfl, hcl, q, rfl⟩ := Hid.out hrel
    have HCL : Hid (∀ j, j < i → N[j]? = M[j]?) := hcl
    clear hrel hcl
    by_cases hi : i < k
    · have hiz : (i : Int) < (k : Int) := by omega
      have hi0 : (0 : Int) ≤ (i : Int) := by omega
      have hin1 : (i : Int) < (n : Int) := by omega
      have him1 : (i : Int) < (m : Int) := by omega
      have hin2 : i < N.length := by rw [HL.out.1]; omega
      have him2 : i < M.length := by rw [HL.out.2]; omega
      obtain ⟨g, o, rfl, hg, hc⟩ := HN.out.at (j := i) hin2
      obtain ⟨g2, o2, rfl, hg2, hc2⟩ := HM.out.at (j := i) him2
      obtain ⟨x, hx⟩ : ∃ x, N[i]'hin2 = x := ⟨_, rfl⟩
      obtain ⟨y, hy⟩ : ∃ y, M[i]'him2 = y := ⟨_, rfl⟩
      rw [hx] at hc
      rw [hy] at hc2
      have HXY : Hid (N[i]? = some x ∧ M[i]? = some y) := ⟨by rw [← hx]; exact List.getElem?_eq_getElem _, by rw [← hy]; exact List.getElem?_eq_getElem _⟩
      clear hx hy hin2 him2
      by_cases hxy : x = y
      · subst hxy
        have ht : (x.toList == x.toList) = true := by simp
        have HS : Hid (∀ j, j < i + 1 → N[j]? = M[j]?) := fun j hj => by
          rcases Nat.lt_succ_iff_lt_or_eq.1 hj with h | rfl
          · exact HCL.out j h
          · rw [HXY.out.1, HXY.out.2]
        go_wp2_with fail
        go_region
        go_wp2_with fail
        refine ⟨⟨i + 1, by omega, by first | rfl | simp, HS.out, q + 1, rfl⟩, ?_⟩
        simp only [intOf]
        omega
      · have ht : (x.toList == y.toList) = false := by
          rw [beq_eq_false_iff_ne]
          intro e
          rw [Lib.toList_data, Lib.toList_data] at e
          exact hxy (ba_ext e)
        have HE : Hid (r = i) := by
          show r = i
          rw [← HR.out]
          refine cmN_is N M i (by rw [HL.out.1]; omega) (by rw [HL.out.2]; omega) HCL.out (.inr (.inr ?_))
          rw [HXY.out.1, HXY.out.2]
          intro e
          injection e with e
          exact hxy e
        clear hxy
        go_wp2_with fail
        go_region
        go_wp2_with fail
        go_ret
        exact ⟨by rw [HE.out]; rfl, q + 1, rfl⟩
    · obtain rfl : i = k := by omega
      have hiz : ¬ (i : Int) < (i : Int) := by omega
      have HE : Hid (r = i) := by
        show r = i
        rw [← HR.out]
        refine cmN_is N M i (by rw [HL.out.1]; omega) (by rw [HL.out.2]; omega) HCL.out ?_
        rcases HK.out with h | h
        · exact .inl (h.trans HL.out.1.symm)
        · exact .inr (.inl (h.trans HL.out.2.symm))
      go_wp2_with fail
      go_region
      go_wp2_with fail
      go_ret
      exact ⟨by rw [HE.out]; rfl, q + 1, rfl⟩
/-- the names of two paths, told in single things -/
theorem both_bad1 (s t : ByteArray) (hz : (prs s.data.toList).2.2.2 ≠ 0) (w : World) : Calls Try.prog 16 #[.string s, .string t] w fun e w' => e = .returned (.tuple #[.slice none 0 0, .slice none 0 0, .int .i64 (prs s.data.toList).2.2.2]) ∧ Below w.heap.size w w' := by
  obtain ⟨N, d, i, z, hp⟩ : ∃ N d i z, prs s.data.toList = (N, d, i, z) := ⟨_, _, _, _, rfl⟩
  rw [hp] at hz ⊢
  have hz : z ≠ 0 := hz
  show Calls _ _ _ _ fun e w' => e = .returned (.tuple #[.slice none 0 0, .slice none 0 0, .int .i64 z]) ∧ _
  have HX := parse_at s hp
  clear hp
  go_enter Try.func16, Try.ntmps16
  go_wp2_with fail
  refine (HX _).mono ?_
  rintro e w1 ⟨a, c, rfl, ho, hb⟩
  have hB := hb.alloc hb.size (.cells #[.slice a N.length c, .bool d] 33)
  clear ho hb
  go_wp2_with fail
  go_ret3
  exact ⟨rfl, hB⟩
set_option maxHeartbeats 1000000 in
theorem both_bad2 (s t : ByteArray) (hz : (prs s.data.toList).2.2.2 = 0) (hz2 : (prs t.data.toList).2.2.2 ≠ 0) (w : World) : Calls Try.prog 16 #[.string s, .string t] w fun e w' => e = .returned (.tuple #[.slice none 0 0, .slice none 0 0, .int .i64 (prs t.data.toList).2.2.2]) ∧ Below w.heap.size w w' := by
  obtain ⟨N, d, i, z, hp⟩ : ∃ N d i z, prs s.data.toList = (N, d, i, z) := ⟨_, _, _, _, rfl⟩
  obtain ⟨M, d2, i2, z2, hp2⟩ : ∃ M d2 i2 z2, prs t.data.toList = (M, d2, i2, z2) := ⟨_, _, _, _, rfl⟩
  rw [hp] at hz
  rw [hp2] at hz2 ⊢
  have hz : z = 0 := hz
  have hz2 : z2 ≠ 0 := hz2
  subst hz
  show Calls _ _ _ _ fun e w' => e = .returned (.tuple #[.slice none 0 0, .slice none 0 0, .int .i64 z2]) ∧ _
  have HX := parse_at s hp
  have HY := parse_at t hp2
  clear hp hp2
  go_enter Try.func16, Try.ntmps16
  go_wp2_with fail
  refine (HX _).mono ?_
  rintro e w1 ⟨a, c, rfl, ho, hb⟩
  have hB := hb.alloc hb.size (.cells #[.slice a N.length c, .bool d] 33)
  clear ho hb
  go_wp2_with fail
  generalize w1.alloc (.cells #[.slice a N.length c, .bool d] 33) = w2 at *
  refine (HY _).mono ?_
  rintro e w3 ⟨a3, c3, rfl, ho3, hb3⟩
  have hB3 := (hB.trans (hb3.mono hB.size)).alloc (Nat.le_trans hB.size hb3.size) (.cells #[.slice a3 M.length c3, .bool d2] 33)
  clear ho3 hb3
  go_wp2_with fail
  go_ret3
  exact ⟨rfl, hB3⟩
set_option maxHeartbeats 1000000 in
theorem both_ok (s t : ByteArray) {N M : List ByteArray} {d d2 : Bool} {i i2 : Nat} (hp : prs s.data.toList = (N, d, i, 0)) (hp2 : prs t.data.toList = (M, d2, i2, 0)) (w : World) : Calls Try.prog 16 #[.string s, .string t] w fun e w' => ∃ (a : Option Addr) (c : Nat) (b : Option Addr) (c2 : Nat), e = .returned (.tuple #[.slice a N.length c, .slice b M.length c2, .int .i64 0]) ∧ w'.ownsRow w.heap.size 9 1 (.slice a N.length c) N.length (N.map Value.string) ∧ w'.ownsRow w.heap.size 9 1 (.slice b M.length c2) M.length (M.map Value.string) ∧ Below w.heap.size w w' := by
  have HX := parse_at s hp
  have HY := parse_at t hp2
  clear hp hp2
  go_enter Try.func16, Try.ntmps16
  go_wp2_with fail
  refine (HX _).mono ?_
  rintro e w1 ⟨a, c, rfl, ho, hb⟩
  have hB := hb.alloc hb.size (.cells #[.slice a N.length c, .bool d] 33)
  have hO := ho.alloc (.cells #[.slice a N.length c, .bool d] 33)
  have k1 := Blk.new w1 33 #[.slice a N.length c, .bool d]
  clear ho hb
  go_wp2_with fail
  generalize w1.alloc (.cells #[.slice a N.length c, .bool d] 33) = w2 at *
  generalize w1.heap.size = gp at *
  refine (HY _).mono ?_
  rintro e w3 ⟨a3, c3, rfl, ho3, hb3⟩
  have k3 := (k1.below hb3 k1.lt).alloc (.cells #[.slice a3 M.length c3, .bool d2] 33)
  have q3 := Blk.new w3 33 #[.slice a3 M.length c3, .bool d2]
  have hB3 := (hB.trans (hb3.mono hB.size)).alloc (Nat.le_trans hB.size hb3.size) (.cells #[.slice a3 M.length c3, .bool d2] 33)
  have hO3 := (kown_below hO hb3).alloc (.cells #[.slice a3 M.length c3, .bool d2] 33)
  have hP3 := kown_mono (ho3.alloc (.cells #[.slice a3 M.length c3, .bool d2] 33)) hB.size
  have c0 := k3.cell 0
  have c1 := q3.cell 0
  have HI : Hid (_ ∧ _ ∧ _) := ⟨hB3, hO3, hP3⟩
  clear ho3 hb3 hB3 hO3 hP3 k3 q3 k1 hO hB
  go_wp2_with fail
  go_region
  go_wp2_with fail
  go_ret3
  obtain ⟨h1, h2, h3⟩ := HI.out
  exact ⟨a, c, a3, c3, rfl, h2.drew, h3.drew, h1.drew⟩
end Go.Proofs.Ytggacdlnpakehaa

namespace Go.Proofs.Ytggacdlnpakehaa
open Go Go.RowKit Go.Shelf
set_option linter.unusedVariables false
set_option linter.unusedSimpArgs false
set_option maxRecDepth 100000 in
set_option maxHeartbeats 4000000 in
theorem common18_any {w : World} {a b : Option Addr} {c d : Nat} {N M : List ByteArray} (hN : IsN w a N) (hM : IsN w b M) (h1 : N.length ≤ 9223372036854775807) (h2 : M.length ≤ 9223372036854775807) :
    Calls Try.prog 20 #[.slice a N.length c, .slice b M.length d] w fun e w' => e = .returned (.int .i64 (cmN N M : Int)) ∧ ∃ n, w' = w.drewN n := by
  obtain ⟨r, hr⟩ : ∃ r, cmN N M = r := ⟨_, rfl⟩
  rw [hr]
  have HR : Hid (cmN N M = r) := hr
  obtain ⟨n, hn⟩ : ∃ n, N.length = n := ⟨_, rfl⟩
  obtain ⟨m, hm⟩ : ∃ m, M.length = m := ⟨_, rfl⟩
  rw [hn] at h1 ⊢
  rw [hm] at h2 ⊢
  have HL : Hid (N.length = n ∧ M.length = m) := ⟨hn, hm⟩
  have HN : Hid (IsN w a N) := hN
  have HM : Hid (IsN w b M) := hM
  clear hr hn hm hN hM
  go_enter Try.func20, Try.ntmps20
  go_wp2_with fail
  go_loopw [5] (fun v wr => Hid (∃ i : Nat, i ≤ n ∧ i ≤ m ∧ v = .int .i64 (i : Int) ∧ (∀ j, j < i → N[j]? = M[j]?) ∧ ∃ q, wr = w.drewN q)) (fun v wr => n - (intOf v).toNat)
  case atStart => exact ⟨0, by omega, by omega, rfl, fun j hj => by omega, 0, rfl⟩
  case round =>
    obtain ⟨i, hin, him, rfl, hcl, q, rfl⟩ := Hid.out hrel
    have HCL : Hid (∀ j, j < i → N[j]? = M[j]?) := hcl
    clear hrel hcl
    by_cases hi : i < n
    · have hin1 : (i : Int) < (n : Int) := by omega
      have hi0 : (0 : Int) ≤ (i : Int) := by omega
      have hin2 : i < N.length := by rw [HL.out.1]; omega
      by_cases hi' : i < m
      · have him1 : (i : Int) < (m : Int) := by omega
        have him2 : i < M.length := by rw [HL.out.2]; omega
        obtain ⟨g, o, rfl, hg, hc⟩ := HN.out.at (j := i) hin2
        obtain ⟨g2, o2, rfl, hg2, hc2⟩ := HM.out.at (j := i) him2
        obtain ⟨x, hx⟩ : ∃ x, N[i]'hin2 = x := ⟨_, rfl⟩
        obtain ⟨y, hy⟩ : ∃ y, M[i]'him2 = y := ⟨_, rfl⟩
        rw [hx] at hc
        rw [hy] at hc2
        have HXY : Hid (N[i]? = some x ∧ M[i]? = some y) := ⟨by rw [← hx]; exact List.getElem?_eq_getElem _, by rw [← hy]; exact List.getElem?_eq_getElem _⟩
        clear hx hy hin2 him2
        by_cases hxy : x = y
        · subst hxy
          have ht : (x.toList == x.toList) = true := by simp
          have HS : Hid (∀ j, j < i + 1 → N[j]? = M[j]?) := fun j hj => by
            rcases Nat.lt_succ_iff_lt_or_eq.1 hj with h | rfl
            · exact HCL.out j h
            · rw [HXY.out.1, HXY.out.2]
          go_wp2_with fail
          go_region
          all_goals
            go_wp2_with fail
            go_roundw
            case rel => exact ⟨i + 1, by omega, by omega, by first | rfl | go_num | simp, HS.out, q + 1, rfl⟩
            case measure => simp [intOf]; omega
        · have ht : (x.toList == y.toList) = false := by
            rw [beq_eq_false_iff_ne]
            intro e
            rw [Lib.toList_data, Lib.toList_data] at e
            exact absurd (ba_ext e) hxy
          have HE : Hid (r = i) := by
            show r = i
            rw [← HR.out]
            refine cmN_is N M i (by rw [HL.out.1]; omega) (by rw [HL.out.2]; omega) HCL.out (.inr (.inr ?_))
            rw [HXY.out.1, HXY.out.2]
            intro e
            injection e with e
            exact hxy e
          have ht2 : ¬ x.toList = y.toList := by simpa using ht
          clear hxy
          go_wp2_with fail
          go_region
          all_goals
            go_wp2_with fail
            go_ret
            exact ⟨by rw [HE.out]; rfl, q + 1, rfl⟩
      · have him1 : ¬ (i : Int) < (m : Int) := by omega
        have HE : Hid (r = i) := by
          show r = i
          rw [← HR.out]
          exact cmN_is N M i (by rw [HL.out.1]; omega) (by rw [HL.out.2]; omega) HCL.out (.inr (.inl (by rw [HL.out.2]; omega)))
        go_wp2_with fail
        go_region
        all_goals
          go_wp2_with fail
          go_ret
          exact ⟨by rw [HE.out]; rfl, q + 1, rfl⟩
    · have hin1 : ¬ (i : Int) < (n : Int) := by omega
      have HE : Hid (r = i) := by
        show r = i
        rw [← HR.out]
        exact cmN_is N M i (by rw [HL.out.1]; omega) (by rw [HL.out.2]; omega) HCL.out (.inl (by rw [HL.out.1]; omega))
      go_wp2_with fail
      go_region
      all_goals
        go_wp2_with fail
        go_ret
        exact ⟨by rw [HE.out]; rfl, q + 1, rfl⟩
/-- what two paths begin with, as a text, and the error -/
def coR (l l2 : List UInt8) : ByteArray × Int := if (prs l).2.2.2 = 0 then (if (prs l2).2.2.2 = 0 then (bsL (frmL ((prs l).1.take (cmN (prs l).1 (prs l2).1))), 0) else (⟨#[]⟩, (prs l2).2.2.2)) else (⟨#[]⟩, (prs l).2.2.2)
set_option maxRecDepth 100000 in
set_option maxHeartbeats 4000000 in
theorem pcommon_any (s t : ByteArray) (w : World) : Calls Try.prog 9 #[.string s, .string t] w fun e w' => e = .returned (.tuple #[.string (coR s.data.toList t.data.toList).1, .int .i64 (coR s.data.toList t.data.toList).2]) ∧ Below w.heap.size w w' := by
  unfold coR
  by_cases hz : (prs s.data.toList).2.2.2 = 0
  · rw [if_pos hz]
    by_cases hz2 : (prs t.data.toList).2.2.2 = 0
    · rw [if_pos hz2]
      obtain ⟨N, d, i, z, hp⟩ : ∃ N d i z, prs s.data.toList = (N, d, i, z) := ⟨_, _, _, _, rfl⟩
      obtain ⟨M, d2, i2, z2, hp2⟩ : ∃ M d2 i2 z2, prs t.data.toList = (M, d2, i2, z2) := ⟨_, _, _, _, rfl⟩
      have hG : GoodN N := by have := good_prs s.data.toList; rwa [hp] at this
      have hG2 : GoodN M := by have := good_prs t.data.toList; rwa [hp2] at this
      rw [hp] at hz ⊢
      rw [hp2] at hz2 ⊢
      obtain rfl : z = 0 := hz
      obtain rfl : z2 = 0 := hz2
      have HX := both_ok s t hp hp2
      obtain ⟨k, hk⟩ : ∃ k, cmN N M = k := ⟨_, rfl⟩
      have hkl := cmN_le N M
      rw [hk] at hkl
      obtain ⟨q, hq⟩ : ∃ q, bsL (frmL (N.take k)) = q := ⟨_, rfl⟩
      have HQ : Hid (bsL (frmL (N.take k)) = q) := hq
      show Calls _ _ _ _ fun e w' => e = .returned (.tuple #[.string (bsL (frmL (N.take (cmN N M)))), .int .i64 0]) ∧ _
      rw [hk, hq]
      have HK : Hid (cmN N M = k) := hk
      have HG : Hid (GoodN N ∧ GoodN M) := ⟨hG, hG2⟩
      have hNl := hG.1
      have hMl := hG2.1
      clear hp hp2 hk hq hG hG2
      go_enter Try.func9, Try.ntmps9
      go_wp2_with fail
      refine (HX _).mono ?_
      rintro e w1 ⟨a, c, b, c2, rfl, ho, ho2, hb⟩
      have hcap := own_cap ho
      have HS : Hid (Calls Try.prog 17 #[.slice a N.length c, .slice b M.length c2] w1 fun e w' => e = .returned (.int .i64 (k : Int)) ∧ ∃ n, w' = w1.drewN n) := by
        have := shared_any (c := c) (d := c2) (own_isN ho) (own_isN ho2) (by omega) (by omega)
        rwa [HK.out] at this
      have HF : Hid (∀ n, Calls Try.prog 21 #[.slice a k c] (w1.drewN n) fun e w' => e = .returned (.string q) ∧ Below (w1.drewN n).heap.size (w1.drewN n) w') := fun n => by
        have hlen : (N.take k).length = k := by rw [List.length_take]; omega
        have := oneForm_any (w := w1.drewN n) (a := a) (N := N.take k) (c := c) (((own_isN ho).take k).dN n) (by rw [hlen]; omega) (HG.out.1.take k)
        rwa [hlen, HQ.out] at this
      have HB : Hid (Below w.heap.size w w1) := hb
      have hk0 : (0 : Int) ≤ (k : Int) := by omega
      have hkc : (k : Int) ≤ (c : Int) := by omega
      clear ho ho2 hb
      go_wp2_with fail
      refine HS.out.mono ?_
      rintro e w2 ⟨rfl, n, rfl⟩
      go_wp2_with fail
      refine (HF.out n).mono ?_
      rintro e w3 ⟨rfl, hb3⟩
      go_wp2_with fail
      go_ret2
      exact ⟨rfl, (bdrewN HB.out n).trans (hb3.mono HB.out.size)⟩
    · rw [if_neg hz2]
      have HX := both_bad2 s t hz hz2
      generalize (prs t.data.toList).2.2.2 = z at *
      have hzb : (z == 0) = false := by simpa using hz2
      have hzn : (z != 0) = true := by simpa using hz2
      clear hz
      go_enter Try.func9, Try.ntmps9
      go_wp2_with fail
      refine (HX _).mono ?_
      rintro e w1 ⟨rfl, hb⟩
      go_wp2_with fail
      go_ret2
      exact ⟨rfl, hb⟩
  · rw [if_neg hz]
    have HX := both_bad1 s t hz
    generalize (prs s.data.toList).2.2.2 = z at *
    have hzb : (z == 0) = false := by simpa using hz
    have hzn : (z != 0) = true := by simpa using hz
    go_enter Try.func9, Try.ntmps9
    go_wp2_with fail
    refine (HX _).mono ?_
    rintro e w1 ⟨rfl, hb⟩
    go_wp2_with fail
    go_ret2
    exact ⟨rfl, hb⟩
set_option maxRecDepth 100000 in
set_option maxHeartbeats 4000000 in
theorem rcommon_any (s t : ByteArray) (w : World) : Calls Try.prog 10 #[.string s, .string t] w fun e w' => e = .returned (.tuple #[.string (coR s.data.toList t.data.toList).1, .int .i64 (coR s.data.toList t.data.toList).2]) ∧ Below w.heap.size w w' := by
  unfold coR
  obtain ⟨N, d, i, z, hp⟩ : ∃ N d i z, prs s.data.toList = (N, d, i, z) := ⟨_, _, _, _, rfl⟩
  obtain ⟨M, d2, i2, z2, hp2⟩ : ∃ M d2 i2 z2, prs t.data.toList = (M, d2, i2, z2) := ⟨_, _, _, _, rfl⟩
  have hG : GoodN N := by have := good_prs s.data.toList; rwa [hp] at this
  have hG2 : GoodN M := by have := good_prs t.data.toList; rwa [hp2] at this
  have HX := rparse_at s hp
  have HY := rparse_at t hp2
  rw [hp, hp2]
  clear hp hp2
  by_cases hz : z = 0
  · subst hz
    rw [if_pos (show (N, d, i, (0 : Int)).2.2.2 = 0 from rfl)]
    by_cases hz2 : z2 = 0
    · subst hz2
      rw [if_pos (show (M, d2, i2, (0 : Int)).2.2.2 = 0 from rfl)]
      obtain ⟨k, hk⟩ : ∃ k, cmN N M = k := ⟨_, rfl⟩
      have hkl := cmN_le N M
      rw [hk] at hkl
      obtain ⟨q, hq⟩ : ∃ q, bsL (frmL (N.take k)) = q := ⟨_, rfl⟩
      have HQ : Hid (bsL (frmL (N.take k)) = q) := hq
      show Calls _ _ _ _ fun e w' => e = .returned (.tuple #[.string (bsL (frmL (N.take (cmN N M)))), .int .i64 0]) ∧ _
      rw [hk, hq]
      have HK : Hid (cmN N M = k) := hk
      have HG : Hid (GoodN N ∧ GoodN M) := ⟨hG, hG2⟩
      have hNl := hG.1
      have hMl := hG2.1
      clear hk hq hG hG2
      go_enter Try.func10, Try.ntmps10
      go_wp2_with fail
      refine (HX _).mono ?_
      rintro e w1 ⟨a, c, rfl, ho, hb⟩
      have hcap := own_cap ho
      have hb1 : Below w1.heap.size w1 (w1.alloc (.cells #[.slice a N.length c, .bool d] 38)) := (Below.refl _ w1).alloc (Nat.le_refl _) _
      have n1 := (own_isN ho).below hb1
      have k1 := Blk.new w1 38 #[.slice a N.length c, .bool d]
      have B1 : Below w.heap.size w (w1.alloc (.cells #[.slice a N.length c, .bool d] 38)) := hb.trans (hb1.mono hb.size)
      have HI : Hid (_ ∧ _ ∧ _) := ⟨n1, k1, B1⟩
      clear ho hb hb1 n1 k1 B1
      go_wp2_with fail
      refine (HY _).mono ?_
      rintro e w2 ⟨b, c2, rfl, ho2, hb2⟩
      obtain ⟨n1, k1, B1⟩ := HI.out
      have hb3 : Below w2.heap.size w2 (w2.alloc (.cells #[.slice b M.length c2, .bool d2] 38)) := (Below.refl _ w2).alloc (Nat.le_refl _) _
      have n2 := (n1.below hb2).below hb3
      have k2 := (k1.below hb2 k1.lt).alloc (.cells #[.slice b M.length c2, .bool d2] 38)
      have m2 := (own_isN ho2).below hb3
      have j2 := Blk.new w2 38 #[.slice b M.length c2, .bool d2]
      have B2 := B1.trans (hb2.mono B1.size)
      have B3 : Below w.heap.size w (w2.alloc (.cells #[.slice b M.length c2, .bool d2] 38)) := B2.trans (hb3.mono B2.size)
      have HS : Hid (∀ n, Calls Try.prog 20 #[.slice a N.length c, .slice b M.length c2] ((w2.alloc (.cells #[.slice b M.length c2, .bool d2] 38)).drewN n) fun e w' => e = .returned (.int .i64 (k : Int)) ∧ ∃ m, w' = ((w2.alloc (.cells #[.slice b M.length c2, .bool d2] 38)).drewN n).drewN m) := fun n => by
        have := common18_any (c := c) (d := c2) (n2.dN n) (m2.dN n) (by omega) (by omega)
        rwa [HK.out] at this
      have HF : Hid (∀ n, Calls Try.prog 15 #[.slice a k c] ((w2.alloc (.cells #[.slice b M.length c2, .bool d2] 38)).drewN n) fun e w' => e = .returned (.string q) ∧ w' = (w2.alloc (.cells #[.slice b M.length c2, .bool d2] 38)).drewN n) := fun n => by
        have hlen : (N.take k).length = k := by rw [List.length_take]; omega
        have := form18_any (w := (w2.alloc (.cells #[.slice b M.length c2, .bool d2] 38)).drewN n) (a := a) (N := N.take k) (c := c) ((n2.take k).dN n) (HG.out.1.take k)
        rwa [hlen, HQ.out] at this
      have ck := k2.cell 0
      have cj := j2.cell 0
      have HB : Hid (Below w.heap.size w (w2.alloc (.cells #[.slice b M.length c2, .bool d2] 38))) := B3
      have hk0 : (0 : Int) ≤ (k : Int) := by omega
      have hkc : (k : Int) ≤ (c : Int) := by omega
      clear n1 k1 B1 n2 k2 m2 j2 B2 B3 HI ho2 hb2 hb3
      go_wp2_with fail
      go_quiet (first
        | (go_at_call 20; exact Calls.quiet_of (HS.out _))
        | (go_at_call 15; exact Calls.quiet_of_same (HF.out _)))
      go_wp2_with fail
      go_ret2
      exact ⟨rfl, bdrewN HB.out _⟩
    · rw [if_neg (show ¬ (M, d2, i2, z2).2.2.2 = 0 from hz2)]
      show Calls _ _ _ _ fun e w' => e = .returned (.tuple #[.string ⟨#[]⟩, .int .i64 z2]) ∧ _
      have hzb : (z2 == 0) = false := by simpa using hz2
      have hzn : (z2 != 0) = true := by simpa using hz2
      clear hG hG2
      go_enter Try.func10, Try.ntmps10
      go_wp2_with fail
      refine (HX _).mono ?_
      rintro e w1 ⟨a, c, rfl, ho, hb⟩
      have B1 : Below w.heap.size w (w1.alloc (.cells #[.slice a N.length c, .bool d] 38)) := hb.alloc hb.size _
      clear ho hb
      go_wp2_with fail
      refine (HY _).mono ?_
      rintro e w2 ⟨b, c2, rfl, ho2, hb2⟩
      have B2 := B1.trans (hb2.mono B1.size)
      have B3 : Below w.heap.size w (w2.alloc (.cells #[.slice b M.length c2, .bool d2] 38)) := B2.alloc B2.size _
      clear B1 B2 ho2 hb2
      go_wp2_with fail
      go_ret2
      exact ⟨rfl, B3⟩
  · rw [if_neg (show ¬ (N, d, i, z).2.2.2 = 0 from hz)]
    show Calls _ _ _ _ fun e w' => e = .returned (.tuple #[.string ⟨#[]⟩, .int .i64 z]) ∧ _
    have hzb : (z == 0) = false := by simpa using hz
    have hzn : (z != 0) = true := by simpa using hz
    clear hG hG2
    go_enter Try.func10, Try.ntmps10
    go_wp2_with fail
    refine (HX _).mono ?_
    rintro e w1 ⟨a, c, rfl, ho, hb⟩
    have B1 : Below w.heap.size w (w1.alloc (.cells #[.slice a N.length c, .bool d] 38)) := hb.alloc hb.size _
    clear ho hb
    go_wp2_with fail
    go_ret2
    exact ⟨rfl, B1⟩
end Go.Proofs.Ytggacdlnpakehaa

namespace Go.Proofs.Ytggacdlnpakehaa
open Go Go.RowKit Go.Shelf
set_option linter.unusedVariables false
set_option linter.unusedSimpArgs false
/-- the way from one path to another one, by its parts -/
def wayL (N M : List ByteArray) : List ByteArray := List.replicate (N.length - cmN N M) ⟨#[46, 46]⟩ ++ M.drop (cmN N M)
def wayS (N M : List ByteArray) : ByteArray := if wayL N M = [] then ⟨#[46]⟩ else bsL (Lib.join ((wayL N M).map (·.data.toList)) [47])
theorem acc_app (N M : List ByteArray) : accN (N ++ M) = accN N ++ accN M := by
  unfold accN
  simp [Lib.joinTail]
theorem rep_len (n : Nat) : (accN (List.replicate n (⟨#[46, 46]⟩ : ByteArray))).length = 3 * n := by
  rw [acc_len]
  have h2 : (⟨#[46, 46]⟩ : ByteArray).size = 2 := rfl
  simp [h2]
  omega
theorem rep_cat (n : Nat) : bsL (accN (List.replicate n (⟨#[46, 46]⟩ : ByteArray))) ++ (⟨#[47, 46, 46]⟩ : ByteArray) = bsL (accN (List.replicate (n + 1) (⟨#[46, 46]⟩ : ByteArray))) := by
  rw [List.replicate_succ', acc_snoc, ← bs_cat]
  rfl
set_option maxRecDepth 100000 in
set_option maxHeartbeats 4000000 in
theorem rrel_ok (s t : ByteArray) {N M : List ByteArray} {d d2 : Bool} {i i2 : Nat} (hp : prs s.data.toList = (N, d, i, 0)) (hp2 : prs t.data.toList = (M, d2, i2, 0)) (w : World) : Calls Try.prog 8 #[.string s, .string t] w fun e w' => e = .returned (.tuple #[.string (wayS N M), .int .i64 0]) ∧ Below w.heap.size w w' := by
  have hG : GoodN N := by have := good_prs s.data.toList; rwa [hp] at this
  have hG2 : GoodN M := by have := good_prs t.data.toList; rwa [hp2] at this
  have HX := rparse_at s hp
  have HY := rparse_at t hp2
  obtain ⟨k, hk⟩ : ∃ k, cmN N M = k := ⟨_, rfl⟩
  have hkl := cmN_le N M
  rw [hk] at hkl
  have HK : Hid (cmN N M = k) := hk
  have HG : Hid (GoodN N ∧ GoodN M) := ⟨hG, hG2⟩
  have hNl := hG.1
  have hMl := hG2.1
  obtain ⟨r, hr⟩ : ∃ r, wayS N M = r := ⟨_, rfl⟩
  have HR : Hid (wayS N M = r) := hr
  rw [hr]
  clear hk hG hG2 hp hp2 hr
  go_enter Try.func8, Try.ntmps8
  go_wp2_with fail
  refine (HX _).mono ?_
  rintro e w1 ⟨a, c, rfl, ho, hb⟩
  have hb1 : Below w1.heap.size w1 (w1.alloc (.cells #[.slice a N.length c, .bool d] 38)) := (Below.refl _ w1).alloc (Nat.le_refl _) _
  have n1 := (own_isN ho).below hb1
  have k1 := Blk.new w1 38 #[.slice a N.length c, .bool d]
  have B1 : Below w.heap.size w (w1.alloc (.cells #[.slice a N.length c, .bool d] 38)) := hb.trans (hb1.mono hb.size)
  have HI : Hid (_ ∧ _ ∧ _) := ⟨n1, k1, B1⟩
  clear ho hb hb1 n1 k1 B1
  go_wp2_with fail
  refine (HY _).mono ?_
  rintro e w2 ⟨b, c2, rfl, ho2, hb2⟩
  obtain ⟨n1, k1, B1⟩ := HI.out
  have hb3 : Below w2.heap.size w2 (w2.alloc (.cells #[.slice b M.length c2, .bool d2] 38)) := (Below.refl _ w2).alloc (Nat.le_refl _) _
  have n2 := (n1.below hb2).below hb3
  have k2 := (k1.below hb2 k1.lt).alloc (.cells #[.slice b M.length c2, .bool d2] 38)
  have m2 := (own_isN ho2).below hb3
  have j2 := Blk.new w2 38 #[.slice b M.length c2, .bool d2]
  have B2 := B1.trans (hb2.mono B1.size)
  have B3 : Below w.heap.size w (w2.alloc (.cells #[.slice b M.length c2, .bool d2] 38)) := B2.trans (hb3.mono B2.size)
  have HS : Hid (∀ n, Calls Try.prog 20 #[.slice a N.length c, .slice b M.length c2] ((w2.alloc (.cells #[.slice b M.length c2, .bool d2] 38)).drewN n) fun e w' => e = .returned (.int .i64 (k : Int)) ∧ ∃ m, w' = ((w2.alloc (.cells #[.slice b M.length c2, .bool d2] 38)).drewN n).drewN m) := fun n => by
    have := common18_any (c := c) (d := c2) (n2.dN n) (m2.dN n) (by omega) (by omega)
    rwa [HK.out] at this
  have ck := k2.cell 0
  have cj := j2.cell 0
  have HE : Hid (_ ∧ _) := ⟨B3, m2⟩
  clear n1 k1 B1 n2 k2 m2 j2 B2 B3 HI ho2 hb2 hb3
  go_wp2_with fail
  refine (HS.out 0).mono ?_
  rintro e w3 ⟨rfl, q0, rfl⟩
  clear HS
  generalize (w2.alloc (.cells #[.slice b M.length c2, .bool d2] 38)) = W at *
  obtain ⟨n, hn⟩ : ∃ n, N.length = n := ⟨_, rfl⟩
  obtain ⟨m, hm⟩ : ∃ m, M.length = m := ⟨_, rfl⟩
  have HL : Hid (N.length = n ∧ M.length = m) := ⟨hn, hm⟩
  rw [hn] at ck hkl hNl ⊢
  rw [hm] at cj hkl hMl ⊢
  clear hn hm
  go_wp2_with fail
  go_loopw [12, 13] (fun u v wr => Hid (∃ j : Nat, k + j ≤ n ∧ v = .int .i64 ((k + j : Nat) : Int) ∧ u = .string (bsL (accN (List.replicate j ⟨#[46, 46]⟩))) ∧ ∃ q, wr = W.drewN q)) (fun u v wr => n - (intOf v).toNat)
  case atStart => exact ⟨0, by omega, rfl, rfl, _, rfl⟩
  case round =>
    obtain ⟨j, hj, rfl, rfl, q, rfl⟩ := Hid.out hrel
    clear hrel
    by_cases hi : k + j < n
    · have hiz : ((k + j : Nat) : Int) < (n : Int) := by omega
      have HC := rep_cat j
      have ha : (bsL (accN (List.replicate j (⟨#[46, 46]⟩ : ByteArray)))).size ≤ 200 := by rw [bsL_size, rep_len]; omega
      obtain ⟨y, hy⟩ : ∃ y, bsL (accN (List.replicate j (⟨#[46, 46]⟩ : ByteArray))) = y := ⟨_, rfl⟩
      rw [hy] at HC ha
      rw [hy]
      have HC : Hid (y ++ (⟨#[47, 46, 46]⟩ : ByteArray) = bsL (accN (List.replicate (j + 1) (⟨#[46, 46]⟩ : ByteArray)))) := HC
      have h3 : (⟨#[47, 46, 46]⟩ : ByteArray).size = 3 := rfl
      obtain ⟨i, hii⟩ : ∃ i : Nat, k + j = i := ⟨_, rfl⟩
      rw [hii] at hiz hi ⊢
      clear hy
      go_wp2_with fail
      go_roundw
      case rel => exact ⟨j + 1, by omega, by first | rfl | go_num | (subst hii; simp; omega) | simp, by rw [← HC.out], _, rfl⟩
      case measure => simp [intOf]; omega
    · have hjn : j = n - k := by omega
      have hiz : ¬ ((k + j : Nat) : Int) < (n : Int) := by omega
      subst hjn
      generalize hrp : List.replicate (n - k) (⟨#[46, 46]⟩ : ByteArray) = rp at *
      have HRP : Hid (List.replicate (n - k) (⟨#[46, 46]⟩ : ByteArray) = rp) := hrp
      clear hrp
      go_wp2_with fail
      go_loopw [12, 14] (fun u v wr => Hid (∃ j : Nat, k + j ≤ m ∧ v = .int .i64 ((k + j : Nat) : Int) ∧ u = .string (bsL (accN (rp ++ (M.drop k).take j))) ∧ ∃ q, wr = W.drewN q)) (fun u v wr => m - (intOf v).toNat)
      case atStart => exact ⟨0, by omega, rfl, by rw [List.take_zero, List.append_nil], _, rfl⟩
      case round =>
        obtain ⟨j, hj2, rfl, rfl, q, rfl⟩ := Hid.out hrel
        clear hrel
        by_cases hi2 : k + j < m
        · have hjz : ((k + j : Nat) : Int) < (m : Int) := by omega
          have hj0 : (0 : Int) ≤ ((k + j : Nat) : Int) := by omega
          have hiM : k + j < M.length := by rw [HL.out.2]; exact hi2
          obtain ⟨g, o, rfl, hg, hc⟩ := HE.out.2.at (j := k + j) hiM
          have hxs : (M[k + j]'hiM).size ≤ 56 := by rw [Lib.size_eq]; exact (isName_len (HG.out.2.2 _ (List.getElem_mem hiM))).2
          have hsn : (M.drop k).take (j + 1) = (M.drop k).take j ++ [M[k + j]'hiM] := by
            have hl : j < (M.drop k).length := by rw [List.length_drop]; omega
            rw [← List.take_append_getElem hl, List.getElem_drop]
          obtain ⟨x, hx⟩ : ∃ x, M[k + j]'hiM = x := ⟨_, rfl⟩
          rw [hx] at hc hxs hsn
          have hcat : bsL (accN (rp ++ (M.drop k).take j)) ++ ((⟨#[47]⟩ : ByteArray) ++ x) = bsL (accN (rp ++ (M.drop k).take (j + 1))) := by
            rw [hsn, ← List.append_assoc, acc_snoc]
            have e1 : (⟨#[47]⟩ : ByteArray) ++ x = bsL (47 :: x.data.toList) := by
              have := bs_cat [47] x.data.toList
              rw [bsL_of] at this
              exact this
            rw [e1, bs_cat]
          have ha : (bsL (accN (rp ++ (M.drop k).take j))).size ≤ 3000 := by
            rw [bsL_size, acc_app, List.length_append, ← HRP.out, rep_len]
            have hgd : GoodN ((M.drop k).take j) := GoodN.take ⟨by have := HG.out.2.1; rw [List.length_drop]; omega, fun x hx => HG.out.2.2 x (List.mem_of_mem_drop hx)⟩ j
            have := good_len hgd
            omega
          obtain ⟨y, hy⟩ : ∃ y, bsL (accN (rp ++ (M.drop k).take j)) = y := ⟨_, rfl⟩
          rw [hy] at hcat ha
          have HC : Hid (y ++ ((⟨#[47]⟩ : ByteArray) ++ x) = bsL (accN (rp ++ (M.drop k).take (j + 1)))) := hcat
          have h1 : (⟨#[47]⟩ : ByteArray).size = 1 := rfl
          have h2 : ((⟨#[47]⟩ : ByteArray) ++ x).size = 1 + x.size := by rw [ByteArray.size_append]; rfl
          rw [hy]
          obtain ⟨i, hii⟩ : ∃ i : Nat, k + j = i := ⟨_, rfl⟩
          rw [hii] at hjz hj0 hi2 hc ⊢
          clear hsn hx hcat hy hiM
          go_wp2_with fail
          go_roundw
          case rel => exact ⟨j + 1, by omega, by first | rfl | go_num | (subst hii; simp; omega) | simp, by rw [← HC.out], _, rfl⟩
          case measure => simp [intOf]; omega
        · have hjn : j = m - k := by omega
          have hjz : ¬ ((k + j : Nat) : Int) < (m : Int) := by omega
          have hway : rp ++ (M.drop k).take j = wayL N M := by
            unfold wayL
            rw [HK.out, HL.out.1, HRP.out, List.take_of_length_le (by rw [List.length_drop, HL.out.2]; omega)]
          rw [hway]
          have hlen3 : (accN (wayL N M)).length ≤ 3000 := by
            rw [← hway, acc_app, List.length_append, ← HRP.out, rep_len]
            have hgd : GoodN ((M.drop k).take j) := GoodN.take ⟨by have := HG.out.2.1; rw [List.length_drop]; omega, fun x hx => HG.out.2.2 x (List.mem_of_mem_drop hx)⟩ j
            have := good_len hgd
            omega
          have HB : Hid (Below w.heap.size w (W.drewN q)) := bdrewN HE.out.1 q
          clear hway
          by_cases hw0 : wayL N M = []
          · obtain rfl : r = ⟨#[46]⟩ := by rw [← HR.out]; unfold wayS; rw [if_pos hw0]
            rw [hw0]
            have e0 : bsL (accN []) = ⟨#[]⟩ := rfl
            rw [e0]
            go_wp2_with fail
            go_ret2
            exact ⟨rfl, HB.out⟩
          · have hfa := frm_acc hw0
            have hrj : r = bsL (Lib.join ((wayL N M).map (·.data.toList)) [47]) := by rw [← HR.out]; unfold wayS; rw [if_neg hw0]
            obtain ⟨L, hL⟩ : ∃ L, Lib.join ((wayL N M).map (·.data.toList)) [47] = L := ⟨_, rfl⟩
            rw [hL] at hrj
            have hac : accN (wayL N M) = 47 :: L := by rw [← hfa, ← hL]; rfl
            rw [hac] at hlen3 ⊢
            obtain ⟨y, hy⟩ : ∃ y, bsL (47 :: L) = y := ⟨_, rfl⟩
            have hys : y.size = L.length + 1 := by rw [← hy, bsL_size]; rfl
            have hyt : y.toList = 47 :: L := by rw [Lib.toList_data, ← hy]; rfl
            have t0 : ¬ y.toList = [] := by rw [hyt]; simp
            have q0 : y.toList.isEmpty = false := by rw [hyt]; rfl
            have hex : y.extract 1 y.size = r := by
              rw [hrj, Lib.extract_eq, hys, ← hy]
              show (⟨(((47 :: L).drop 1).take (L.length + 1 - 1)).toArray⟩ : ByteArray) = bsL L
              simp
              rfl
            have hy1 : (1 : Int) ≤ (y.size : Int) := by omega
            rw [hy]
            clear hac hfa hL hy hyt hrj
            go_wp2_with fail
            go_ret2
            rw [hys] at hex
            exact ⟨by rw [hex]; rfl, HB.out⟩
/-- the way and the error -/
def reR (l l2 : List UInt8) : ByteArray × Int := if (prs l).2.2.2 = 0 then (if (prs l2).2.2.2 = 0 then (wayS (prs l).1 (prs l2).1, 0) else (⟨#[]⟩, (prs l2).2.2.2)) else (⟨#[]⟩, (prs l).2.2.2)
set_option maxRecDepth 100000 in
set_option maxHeartbeats 4000000 in
theorem rrel_any (s t : ByteArray) (w : World) : Calls Try.prog 8 #[.string s, .string t] w fun e w' => e = .returned (.tuple #[.string (reR s.data.toList t.data.toList).1, .int .i64 (reR s.data.toList t.data.toList).2]) ∧ Below w.heap.size w w' := by
  unfold reR
  obtain ⟨N, d, i, z, hp⟩ : ∃ N d i z, prs s.data.toList = (N, d, i, z) := ⟨_, _, _, _, rfl⟩
  obtain ⟨M, d2, i2, z2, hp2⟩ : ∃ M d2 i2 z2, prs t.data.toList = (M, d2, i2, z2) := ⟨_, _, _, _, rfl⟩
  have HX := rparse_at s hp
  have HY := rparse_at t hp2
  rw [hp, hp2]
  by_cases hz : z = 0
  · subst hz
    rw [if_pos (show (N, d, i, (0 : Int)).2.2.2 = 0 from rfl)]
    by_cases hz2 : z2 = 0
    · subst hz2
      rw [if_pos (show (M, d2, i2, (0 : Int)).2.2.2 = 0 from rfl)]
      exact rrel_ok s t hp hp2 w
    · rw [if_neg (show ¬ (M, d2, i2, z2).2.2.2 = 0 from hz2)]
      show Calls _ _ _ _ fun e w' => e = .returned (.tuple #[.string ⟨#[]⟩, .int .i64 z2]) ∧ _
      have hzb : (z2 == 0) = false := by simpa using hz2
      have hzn : (z2 != 0) = true := by simpa using hz2
      go_enter Try.func8, Try.ntmps8
      go_wp2_with fail
      refine (HX _).mono ?_
      rintro e w1 ⟨a, c, rfl, ho, hb⟩
      have B1 : Below w.heap.size w (w1.alloc (.cells #[.slice a N.length c, .bool d] 38)) := hb.alloc hb.size _
      clear ho hb
      go_wp2_with fail
      refine (HY _).mono ?_
      rintro e w2 ⟨b, c2, rfl, ho2, hb2⟩
      have B2 := B1.trans (hb2.mono B1.size)
      have B3 : Below w.heap.size w (w2.alloc (.cells #[.slice b M.length c2, .bool d2] 38)) := B2.alloc B2.size _
      clear B1 B2 ho2 hb2
      go_wp2_with fail
      go_ret2
      exact ⟨rfl, B3⟩
  · rw [if_neg (show ¬ (N, d, i, z).2.2.2 = 0 from hz)]
    show Calls _ _ _ _ fun e w' => e = .returned (.tuple #[.string ⟨#[]⟩, .int .i64 z]) ∧ _
    have hzb : (z == 0) = false := by simpa using hz
    have hzn : (z != 0) = true := by simpa using hz
    go_enter Try.func8, Try.ntmps8
    go_wp2_with fail
    refine (HX _).mono ?_
    rintro e w1 ⟨a, c, rfl, ho, hb⟩
    have B1 : Below w.heap.size w (w1.alloc (.cells #[.slice a N.length c, .bool d] 38)) := hb.alloc hb.size _
    clear ho hb
    go_wp2_with fail
    go_ret2
    exact ⟨rfl, B1⟩
end Go.Proofs.Ytggacdlnpakehaa

namespace Go.Proofs
open Go.Shelf
def Try.mulA_ren : Go.Shelf.Ren := ⟨fun | 212 => 28 | 263 => 37 | 264 => 38 | n => n, fun | 46 => 53 | 51 => 70 | 146 => 71 | 53 => 73 | 148 => 74 | n => n, fun | n => n⟩
theorem Try.mulA : Go.Proofs.Lays.n212 Try.prog Try.mulA_ren := {
  mixed := by kernel_rfl
  f212 := Try.func28.trans (congrArg some (by kernel_rfl))
  f263 := Try.func37.trans (congrArg some (by kernel_rfl))
  f264 := Try.func38.trans (congrArg some (by kernel_rfl))
  t46 := Try.underlying53
  a46 := Try.isAgg53
  z46 := Try.sizeOf53
  v46 := Try.zeroValue53
  t51 := Try.underlying70
  a51 := Try.isAgg70
  z51 := Try.sizeOf70
  v51 := Try.zeroValue70
  t53 := Try.underlying73
  a53 := Try.isAgg73
  z53 := Try.sizeOf73
  v53 := Try.zeroValue73
  t146 := Try.underlying71
  a146 := Try.isAgg71
  z146 := Try.sizeOf71
  v146 := Try.zeroValue71
  t148 := Try.underlying74
  a148 := Try.isAgg74
  z148 := Try.sizeOf74
  v148 := Try.zeroValue74 }
end Go.Proofs
