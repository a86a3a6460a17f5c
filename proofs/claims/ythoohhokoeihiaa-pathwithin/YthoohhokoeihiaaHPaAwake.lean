/- The statements' awake: a path is read. -/
import Derived.Test.YthoohhokoeihiaaHPaRParse
import Derived.Test.YthoohhokoeihiaaHPaForm
import Derived.BigQuiet
import Derived.Deep.QuietTactic
import Derived.Test.YthoohhokoeihiaaHPaParse2

namespace Go.Proofs.Ythoohhokoeihiaa
open Go Go.RowKit Go.Shelf
set_option linter.unusedVariables false
set_option linter.unusedSimpArgs false
set_option maxRecDepth 100000 in
set_option maxHeartbeats 4000000 in
theorem rparse_any (s : ByteArray) (w : World) : Calls Try.prog 11 #[.string s] w fun e w' => PRet s.data.toList w e w' := by
  have hb : Below w.heap.size w (w.alloc (.cells #[.slice none 0 0, .bool false] 29)) := (Below.refl _ w).alloc (Nat.le_refl _) _
  have k0 := Blk.new w 29 #[.slice none 0 0, .bool false]
  have c0 := k0.cell 0
  have c1 := k0.cell 1
  by_cases h1 : s.size ≤ 1024
  · by_cases h2 : s.data.toList[0]? = some 47
    · exact rparse_main s h1 h2 w
    · have hz : (s.size : Int) ≤ 1024 := by omega
      have HR : Hid (PRet s.data.toList w (.returned (.tuple #[.agg #[.slice none 0 0, .bool false], .int .i64 ((0 : Nat) : Int), .int .i64 180])) (w.alloc (.cells #[.slice none 0 0, .bool false] 29))) := by
        refine pret_of (N := []) ?_ (World.ownsRow_nil _ _ _ _) hb
        unfold prs
        rw [if_neg (by rw [← Lib.size_eq]; omega), if_neg h2]
      have htl : s.toList = s.data.toList := Lib.toList_data s
      by_cases h3 : s.data.toList = []
      · have t0 : s.toList = [] := htl.trans h3
        have q0 : s.toList.isEmpty = true := by rw [t0]; rfl
        clear h2 h3 htl
        go_enter Try.func11, Try.ntmps11
        go_wp2_with fail
        generalize w.alloc (.cells #[.slice none 0 0, .bool false] 29) = Wf at *
        refine bodyPost_ret (v := .tuple #[.agg #[.slice none 0 0, .bool false], .int .i64 0, .int .i64 180]) ?_ rfl HR.out
        simp [results, Try.f11, go_sem, c0, c1]
      · have t0 : ¬ s.toList = [] := by rw [htl]; exact h3
        have q0 : s.toList.isEmpty = false := by simpa using t0
        have hpos : 0 < s.size := by rw [Lib.size_eq]; exact List.length_pos_iff.2 h3
        have x0 := Lib.data_getElem? s 0 hpos
        have x1 : (s[0]'hpos) ≠ 47 := fun e => h2 (by rw [x0, e])
        have b1 : (((s[0]'hpos).toNat : Int) == 47) = false := ubeq_ne x1
        have b2 : ¬ ((s[0]'hpos).toNat : Int) = 47 := by simpa using b1
        clear h2 h3 htl x0 x1
        go_enter Try.func11, Try.ntmps11
        go_wp2_with fail
        generalize w.alloc (.cells #[.slice none 0 0, .bool false] 29) = Wf at *
        refine bodyPost_ret (v := .tuple #[.agg #[.slice none 0 0, .bool false], .int .i64 0, .int .i64 180]) ?_ rfl HR.out
        simp [results, Try.f11, go_sem, c0, c1]
  · have hz : (1024 : Int) < (s.size : Int) := by omega
    have HR : Hid (PRet s.data.toList w (.returned (.tuple #[.agg #[.slice none 0 0, .bool false], .int .i64 ((1024 : Nat) : Int), .int .i64 181])) (w.alloc (.cells #[.slice none 0 0, .bool false] 29))) := by
      refine pret_of (N := []) ?_ (World.ownsRow_nil _ _ _ _) hb
      unfold prs
      rw [if_pos (by rw [← Lib.size_eq]; omega)]
    go_enter Try.func11, Try.ntmps11
    go_wp2_with fail
    generalize w.alloc (.cells #[.slice none 0 0, .bool false] 29) = Wf at *
    refine bodyPost_ret (v := .tuple #[.agg #[.slice none 0 0, .bool false], .int .i64 1024, .int .i64 181]) ?_ rfl HR.out
    simp [results, Try.f11, go_sem, c0, c1]
end Go.Proofs.Ythoohhokoeihiaa

namespace Go.Proofs.Ythoohhokoeihiaa
open Go Go.RowKit Go.Shelf
set_option linter.unusedVariables false
set_option linter.unusedSimpArgs false
/-- Parse told in single things -/
theorem parse_at (s : ByteArray) {N : List ByteArray} {d : Bool} {i : Nat} {z : Int} (hp : prs s.data.toList = (N, d, i, z)) (w : World) : Calls Try.prog 10 #[.string s] w fun e w' => ∃ (a : Option Addr) (c : Nat), e = .returned (.tuple #[.agg #[.slice a N.length c, .bool d], .int .i64 (i : Int), .int .i64 z]) ∧ w'.ownsRow w.heap.size 9 1 (.slice a N.length c) N.length (N.map Value.string) ∧ Below w.heap.size w w' := by
  refine (parse_any s w).mono ?_
  rintro e w' ⟨v, he, ho, hb⟩
  rw [hp] at he ho
  obtain ⟨a, c, rfl⟩ := kown_slice ho
  exact ⟨a, c, he, ho, hb⟩
theorem rparse_at (s : ByteArray) {N : List ByteArray} {d : Bool} {i : Nat} {z : Int} (hp : prs s.data.toList = (N, d, i, z)) (w : World) : Calls Try.prog 11 #[.string s] w fun e w' => ∃ (a : Option Addr) (c : Nat), e = .returned (.tuple #[.agg #[.slice a N.length c, .bool d], .int .i64 (i : Int), .int .i64 z]) ∧ w'.ownsRow w.heap.size 9 1 (.slice a N.length c) N.length (N.map Value.string) ∧ Below w.heap.size w w' := by
  refine (rparse_any s w).mono ?_
  rintro e w' ⟨v, he, ho, hb⟩
  rw [hp] at he ho
  obtain ⟨a, c, rfl⟩ := kown_slice ho
  exact ⟨a, c, he, ho, hb⟩
end Go.Proofs.Ythoohhokoeihiaa

namespace Go.Proofs.Ythoohhokoeihiaa
open Go Go.RowKit Go.Shelf
set_option linter.unusedVariables false
set_option linter.unusedSimpArgs false
/-- how many names both begin with -/
def cmN : List ByteArray → List ByteArray → Nat
  | x :: a, y :: b => if x = y then cmN a b + 1 else 0
  | [], _ => 0
  | _ :: _, [] => 0
theorem cmN_le : ∀ a b : List ByteArray, cmN a b ≤ a.length ∧ cmN a b ≤ b.length
  | [], b => by simp [cmN]
  | x :: a, [] => by simp [cmN]
  | x :: a, y :: b => by
    have := cmN_le a b
    unfold cmN
    split
    · simp only [List.length_cons]; omega
    · simp
theorem cmN_is : ∀ (a b : List ByteArray) (k : Nat), k ≤ a.length → k ≤ b.length → (∀ j, j < k → a[j]? = b[j]?) → (k = a.length ∨ k = b.length ∨ a[k]? ≠ b[k]?) → cmN a b = k
  | [], b, k, h1, h2, h3, h4 => by
    simp only [List.length_nil, Nat.le_zero] at h1
    simp [cmN, h1]
  | x :: a, [], k, h1, h2, h3, h4 => by
    simp only [List.length_nil, Nat.le_zero] at h2
    simp [cmN, h2]
  | x :: a, y :: b, 0, h1, h2, h3, h4 => by
    have : x ≠ y := by
      rcases h4 with h | h | h
      · simp at h
      · simp at h
      · intro e; exact h (by rw [e]; simp)
    simp [cmN, this]
  | x :: a, y :: b, k + 1, h1, h2, h3, h4 => by
    have e : x = y := by have := h3 0 (by omega); simpa using this
    have ih := cmN_is a b k (by simpa using h1) (by simpa using h2) (fun j hj => by have := h3 (j + 1) (by omega); simpa using this) (by
      rcases h4 with h | h | h
      · left; simpa using h
      · right; left; simpa using h
      · right; right; simpa using h)
    simp [cmN, e, ih]
set_option maxRecDepth 100000 in
set_option maxHeartbeats 4000000 in
theorem shared_any {w : World} {a b : Option Addr} {c d : Nat} {N M : List ByteArray} (hN : IsN w a N) (hM : IsN w b M) (h1 : N.length ≤ 9223372036854775807) (h2 : M.length ≤ 9223372036854775807) :
    Calls Try.prog 37 #[.slice a N.length c, .slice b M.length d] w fun e w' => e = .returned (.int .i64 (cmN N M : Int)) ∧ ∃ n, w' = w.drewN n := by
  obtain ⟨r, hr⟩ : ∃ r, cmN N M = r := ⟨_, rfl⟩
  rw [hr]
  have HR : Hid (cmN N M = r) := hr
  obtain ⟨n, hn⟩ : ∃ n, N.length = n := ⟨_, rfl⟩
  obtain ⟨m, hm⟩ : ∃ m, M.length = m := ⟨_, rfl⟩
  rw [hn] at h1 ⊢
  rw [hm] at h2 ⊢
  have HL : Hid (N.length = n ∧ M.length = m) := ⟨hn, hm⟩
  have HN : Hid (IsN w a N) := hN
  have HM : Hid (IsN w b M) := hM
  clear hr hn hm hN hM
  obtain ⟨k, hk⟩ : ∃ k, min n m = k := ⟨_, rfl⟩
  have hmin : min (n : Int) (m : Int) = (k : Int) := by omega
  have hkn : k ≤ n := by omega
  have hkm : k ≤ m := by omega
  have HK : Hid (k = n ∨ k = m) := by show _ ∨ _; omega
  clear hk
  go_enter Try.func37, Try.ntmps37
  go_wp2_with fail
  go_loopw [5] (fun v wr => Hid (∃ i : Nat, i ≤ k ∧ v = .int .i64 (i : Int) ∧ (∀ j, j < i → N[j]? = M[j]?) ∧ ∃ q, wr = w.drewN q)) (fun v wr => k - (intOf v).toNat)
  case atStart => exact ⟨0, by omega, rfl, fun j hj => by omega, 0, rfl⟩
  case round =>
    obtain ⟨i, hin, rfl, hcl, q, rfl⟩ := Hid.out hrel
    have HCL : Hid (∀ j, j < i → N[j]? = M[j]?) := hcl
    clear hrel hcl
    by_cases hi : i < k
    · have hiz : (i : Int) < (k : Int) := by omega
      have hi0 : (0 : Int) ≤ (i : Int) := by omega
      have hin1 : (i : Int) < (n : Int) := by omega
      have him1 : (i : Int) < (m : Int) := by omega
      have hin2 : i < N.length := by rw [HL.out.1]; omega
      have him2 : i < M.length := by rw [HL.out.2]; omega
      obtain ⟨g, o, rfl, hg, hc⟩ := HN.out.at (j := i) hin2
      obtain ⟨g2, o2, rfl, hg2, hc2⟩ := HM.out.at (j := i) him2
      obtain ⟨x, hx⟩ : ∃ x, N[i]'hin2 = x := ⟨_, rfl⟩
      obtain ⟨y, hy⟩ : ∃ y, M[i]'him2 = y := ⟨_, rfl⟩
      rw [hx] at hc
      rw [hy] at hc2
      have HXY : Hid (N[i]? = some x ∧ M[i]? = some y) := ⟨by rw [← hx]; exact List.getElem?_eq_getElem _, by rw [← hy]; exact List.getElem?_eq_getElem _⟩
      clear hx hy hin2 him2
      by_cases hxy : x = y
      · subst hxy
        have ht : (x.toList == x.toList) = true := by simp
        have HS : Hid (∀ j, j < i + 1 → N[j]? = M[j]?) := fun j hj => by
          rcases Nat.lt_succ_iff_lt_or_eq.1 hj with h | rfl
          · exact HCL.out j h
          · rw [HXY.out.1, HXY.out.2]
        go_wp2_with fail
        go_region
        go_wp2_with fail
        refine ⟨⟨i + 1, by omega, by first | rfl | simp, HS.out, q + 1, rfl⟩, ?_⟩
        simp only [intOf]
        omega
      · have ht : (x.toList == y.toList) = false := by
          rw [beq_eq_false_iff_ne]
          intro e
          rw [Lib.toList_data, Lib.toList_data] at e
          exact hxy (ba_ext e)
        have HE : Hid (r = i) := by
          show r = i
          rw [← HR.out]
          refine cmN_is N M i (by rw [HL.out.1]; omega) (by rw [HL.out.2]; omega) HCL.out (.inr (.inr ?_))
          rw [HXY.out.1, HXY.out.2]
          intro e
          injection e with e
          exact hxy e
        clear hxy
        go_wp2_with fail
        go_region
        go_wp2_with fail
        go_ret
        exact ⟨by rw [HE.out]; rfl, q + 1, rfl⟩
    · obtain rfl : i = k := by omega
      have hiz : ¬ (i : Int) < (i : Int) := by omega
      have HE : Hid (r = i) := by
        show r = i
        rw [← HR.out]
        refine cmN_is N M i (by rw [HL.out.1]; omega) (by rw [HL.out.2]; omega) HCL.out ?_
        rcases HK.out with h | h
        · exact .inl (h.trans HL.out.1.symm)
        · exact .inr (.inl (h.trans HL.out.2.symm))
      go_wp2_with fail
      go_region
      go_wp2_with fail
      go_ret
      exact ⟨by rw [HE.out]; rfl, q + 1, rfl⟩
/-- the names of two paths, told in single things -/
theorem both_bad1 (s t : ByteArray) (hz : (prs s.data.toList).2.2.2 ≠ 0) (w : World) : Calls Try.prog 38 #[.string s, .string t] w fun e w' => e = .returned (.tuple #[.slice none 0 0, .slice none 0 0, .int .i64 (prs s.data.toList).2.2.2]) ∧ Below w.heap.size w w' := by
  obtain ⟨N, d, i, z, hp⟩ : ∃ N d i z, prs s.data.toList = (N, d, i, z) := ⟨_, _, _, _, rfl⟩
  rw [hp] at hz ⊢
  have hz : z ≠ 0 := hz
  show Calls _ _ _ _ fun e w' => e = .returned (.tuple #[.slice none 0 0, .slice none 0 0, .int .i64 z]) ∧ _
  have HX := parse_at s hp
  clear hp
  go_enter Try.func38, Try.ntmps38
  go_wp2_with fail
  refine (HX _).mono ?_
  rintro e w1 ⟨a, c, rfl, ho, hb⟩
  have hB := hb.alloc hb.size (.cells #[.slice a N.length c, .bool d] 25)
  clear ho hb
  go_wp2_with fail
  go_ret3
  exact ⟨rfl, hB⟩
set_option maxHeartbeats 1000000 in
theorem both_bad2 (s t : ByteArray) (hz : (prs s.data.toList).2.2.2 = 0) (hz2 : (prs t.data.toList).2.2.2 ≠ 0) (w : World) : Calls Try.prog 38 #[.string s, .string t] w fun e w' => e = .returned (.tuple #[.slice none 0 0, .slice none 0 0, .int .i64 (prs t.data.toList).2.2.2]) ∧ Below w.heap.size w w' := by
  obtain ⟨N, d, i, z, hp⟩ : ∃ N d i z, prs s.data.toList = (N, d, i, z) := ⟨_, _, _, _, rfl⟩
  obtain ⟨M, d2, i2, z2, hp2⟩ : ∃ M d2 i2 z2, prs t.data.toList = (M, d2, i2, z2) := ⟨_, _, _, _, rfl⟩
  rw [hp] at hz
  rw [hp2] at hz2 ⊢
  have hz : z = 0 := hz
  have hz2 : z2 ≠ 0 := hz2
  subst hz
  show Calls _ _ _ _ fun e w' => e = .returned (.tuple #[.slice none 0 0, .slice none 0 0, .int .i64 z2]) ∧ _
  have HX := parse_at s hp
  have HY := parse_at t hp2
  clear hp hp2
  go_enter Try.func38, Try.ntmps38
  go_wp2_with fail
  refine (HX _).mono ?_
  rintro e w1 ⟨a, c, rfl, ho, hb⟩
  have hB := hb.alloc hb.size (.cells #[.slice a N.length c, .bool d] 25)
  clear ho hb
  go_wp2_with fail
  generalize w1.alloc (.cells #[.slice a N.length c, .bool d] 25) = w2 at *
  refine (HY _).mono ?_
  rintro e w3 ⟨a3, c3, rfl, ho3, hb3⟩
  have hB3 := (hB.trans (hb3.mono hB.size)).alloc (Nat.le_trans hB.size hb3.size) (.cells #[.slice a3 M.length c3, .bool d2] 25)
  clear ho3 hb3
  go_wp2_with fail
  go_ret3
  exact ⟨rfl, hB3⟩
set_option maxHeartbeats 1000000 in
theorem both_ok (s t : ByteArray) {N M : List ByteArray} {d d2 : Bool} {i i2 : Nat} (hp : prs s.data.toList = (N, d, i, 0)) (hp2 : prs t.data.toList = (M, d2, i2, 0)) (w : World) : Calls Try.prog 38 #[.string s, .string t] w fun e w' => ∃ (a : Option Addr) (c : Nat) (b : Option Addr) (c2 : Nat), e = .returned (.tuple #[.slice a N.length c, .slice b M.length c2, .int .i64 0]) ∧ w'.ownsRow w.heap.size 9 1 (.slice a N.length c) N.length (N.map Value.string) ∧ w'.ownsRow w.heap.size 9 1 (.slice b M.length c2) M.length (M.map Value.string) ∧ Below w.heap.size w w' := by
  have HX := parse_at s hp
  have HY := parse_at t hp2
  clear hp hp2
  go_enter Try.func38, Try.ntmps38
  go_wp2_with fail
  refine (HX _).mono ?_
  rintro e w1 ⟨a, c, rfl, ho, hb⟩
  have hB := hb.alloc hb.size (.cells #[.slice a N.length c, .bool d] 25)
  have hO := ho.alloc (.cells #[.slice a N.length c, .bool d] 25)
  have k1 := Blk.new w1 25 #[.slice a N.length c, .bool d]
  clear ho hb
  go_wp2_with fail
  generalize w1.alloc (.cells #[.slice a N.length c, .bool d] 25) = w2 at *
  generalize w1.heap.size = gp at *
  refine (HY _).mono ?_
  rintro e w3 ⟨a3, c3, rfl, ho3, hb3⟩
  have k3 := (k1.below hb3 k1.lt).alloc (.cells #[.slice a3 M.length c3, .bool d2] 25)
  have q3 := Blk.new w3 25 #[.slice a3 M.length c3, .bool d2]
  have hB3 := (hB.trans (hb3.mono hB.size)).alloc (Nat.le_trans hB.size hb3.size) (.cells #[.slice a3 M.length c3, .bool d2] 25)
  have hO3 := (kown_below hO hb3).alloc (.cells #[.slice a3 M.length c3, .bool d2] 25)
  have hP3 := kown_mono (ho3.alloc (.cells #[.slice a3 M.length c3, .bool d2] 25)) hB.size
  have c0 := k3.cell 0
  have c1 := q3.cell 0
  have HI : Hid (_ ∧ _ ∧ _) := ⟨hB3, hO3, hP3⟩
  clear ho3 hb3 hB3 hO3 hP3 k3 q3 k1 hO hB
  go_wp2_with fail
  go_region
  go_wp2_with fail
  go_ret3
  obtain ⟨h1, h2, h3⟩ := HI.out
  exact ⟨a, c, a3, c3, rfl, h2.drew, h3.drew, h1.drew⟩
set_option maxHeartbeats 1000000 in
theorem psame_any (s t : ByteArray) (w : World) : Calls Try.prog 21 #[.string s, .string t] w fun e w' => e = .returned (.bool (decide ((prs s.data.toList).2.2.2 = 0) && (decide ((prs t.data.toList).2.2.2 = 0) && decide ((prs s.data.toList).1 = (prs t.data.toList).1)))) ∧ Below w.heap.size w w' := by
  by_cases hz : (prs s.data.toList).2.2.2 = 0
  · by_cases hz2 : (prs t.data.toList).2.2.2 = 0
    · obtain ⟨N, d, i, z, hp⟩ : ∃ N d i z, prs s.data.toList = (N, d, i, z) := ⟨_, _, _, _, rfl⟩
      obtain ⟨M, d2, i2, z2, hp2⟩ : ∃ M d2 i2 z2, prs t.data.toList = (M, d2, i2, z2) := ⟨_, _, _, _, rfl⟩
      have hG := (good_prs s.data.toList).1
      have hG2 := (good_prs t.data.toList).1
      rw [decide_eq_true hz, decide_eq_true hz2, Bool.true_and, Bool.true_and]
      rw [hp] at hz hG ⊢
      rw [hp2] at hz2 hG2 ⊢
      obtain rfl : z = 0 := hz
      obtain rfl : z2 = 0 := hz2
      have hG : N.length ≤ 32 := hG
      have hG2 : M.length ≤ 32 := hG2
      show Calls _ _ _ _ fun e w' => e = .returned (.bool (decide (N = M))) ∧ _
      have HX := both_ok s t hp hp2
      obtain ⟨r, hr⟩ : ∃ r, decide (N = M) = r := ⟨_, rfl⟩
      rw [hr]
      have HR : Hid (decide (N = M) = r) := hr
      clear hp hp2 hr
      go_enter Try.func21, Try.ntmps21
      go_wp2_with fail
      refine (HX _).mono ?_
      rintro e w1 ⟨a, c, b, c2, rfl, ho, ho2, hb⟩
      have HE : Hid (Calls Try.prog 39 #[.slice a N.length c, .slice b M.length c2] w1 fun e w' => e = .returned (.bool r) ∧ Below w1.heap.size w1 w') := by
        show Calls _ _ _ _ _
        rcases own_isN ho with rfl | ⟨g, o, rfl, hg, hc⟩
        · refine (Any.slices_Equal_string_empty Try.equalA a b c M.length c2 w1 (by omega)).mono ?_
          rintro e w' ⟨rfl, rfl⟩
          refine ⟨?_, Below.refl _ _⟩
          rw [← HR.out]
          cases M <;> simp
        · rcases own_isN ho2 with rfl | ⟨g2, o2, rfl, hg2, hc2⟩
          · by_cases hN0 : N.length = 0
            · have hN0' : N = [] := List.length_eq_zero_iff.1 hN0
              subst hN0'
              refine (Any.slices_Equal_string_empty Try.equalA _ b c 0 c2 w1 (by omega)).mono ?_
              rintro e w' ⟨rfl, rfl⟩
              refine ⟨?_, Below.refl _ _⟩
              rw [← HR.out]
              simp
            · refine (Any.slices_Equal_string_lens Try.equalA _ b N.length c 0 c2 w1 hN0).mono ?_
              rintro e w' ⟨rfl, rfl⟩
              refine ⟨?_, Below.refl _ _⟩
              rw [← HR.out, decide_eq_false (fun e => hN0 (by rw [e]; rfl))]
          · refine (Any.slices_Equal_string Try.equalA g o N.length c g2 o2 M.length c2 N M w1 (Nat.le_refl _) (Nat.le_refl _) (by omega) (by omega) (fun j hj => hc j _ (by simp [List.getElem?_eq_getElem hj])) (fun j hj => hc2 j _ (by simp [List.getElem?_eq_getElem hj]))).mono ?_
            rintro e w' ⟨rfl, q, rfl⟩
            refine ⟨?_, bdrewN (Below.refl _ _) q⟩
            rw [List.take_length, List.take_length, HR.out]
      clear ho ho2
      go_wp2_with fail
      refine HE.out.mono ?_
      rintro e w2 ⟨rfl, hb2⟩
      go_wp2_with fail
      go_ret
      exact ⟨rfl, hb.trans (hb2.mono hb.size)⟩
    · rw [decide_eq_false hz2, Bool.false_and, Bool.and_false]
      have HX := both_bad2 s t hz hz2
      generalize (prs t.data.toList).2.2.2 = z at *
      clear hz
      go_enter Try.func21, Try.ntmps21
      go_wp2_with fail
      refine (HX _).mono ?_
      rintro e w1 ⟨rfl, hb⟩
      have hzb : (z == 0) = false := by simpa using hz2
      go_wp2_with fail
      go_ret
      exact ⟨rfl, hb⟩
  · rw [decide_eq_false hz, Bool.false_and]
    have HX := both_bad1 s t hz
    generalize (prs s.data.toList).2.2.2 = z at *
    go_enter Try.func21, Try.ntmps21
    go_wp2_with fail
    refine (HX _).mono ?_
    rintro e w1 ⟨rfl, hb⟩
    have hzb : (z == 0) = false := by simpa using hz
    go_wp2_with fail
    go_ret
    exact ⟨rfl, hb⟩
set_option maxHeartbeats 1000000 in
theorem within_any {w : World} {a b : Option Addr} {c d : Nat} {N M : List ByteArray} (hN : IsN w a N) (hM : IsN w b M) (h1 : N.length ≤ 9223372036854775807) (h2 : M.length ≤ 9223372036854775807) (p q : Bool) :
    Calls Try.prog 20 #[.agg #[.slice a N.length c, .bool p], .agg #[.slice b M.length d, .bool q]] w fun e w' => e = .returned (.bool (decide (cmN N M = M.length))) ∧ Below w.heap.size w w' := by
  have hb2 : Below w.heap.size w ((w.alloc (.cells #[.slice a N.length c, .bool p] 25)).alloc (.cells #[.slice b M.length d, .bool q] 25)) := ((Below.refl _ w).alloc (Nat.le_refl _) _).alloc (by simp) _
  have HX : Hid (∀ V, Below w.heap.size w V → Calls Try.prog 37 #[.slice a N.length c, .slice b M.length d] V fun e w' => e = .returned (.int .i64 (cmN N M : Int)) ∧ ∃ n, w' = V.drewN n) := fun V hV => shared_any (hN.below hV) (hM.below hV) h1 h2
  have HR : Hid ((((cmN N M : Nat) : Int) == (M.length : Int)) = decide (cmN N M = M.length)) := by
    show (_ == _) = _
    by_cases h : cmN N M = M.length
    · rw [decide_eq_true h, h]; simp
    · rw [decide_eq_false h, beq_eq_false_iff_ne]; omega
  generalize cmN N M = k at *
  obtain ⟨r, hr⟩ : ∃ r, decide (k = M.length) = r := ⟨_, rfl⟩
  rw [hr] at HR ⊢
  have hrr : ((k : Int) == (M.length : Int)) = r := HR.out
  clear hr HR hN hM
  have k1 := (Blk.new w 25 #[.slice a N.length c, .bool p]).alloc (.cells #[.slice b M.length d, .bool q] 25)
  have k2 := Blk.new (w.alloc (.cells #[.slice a N.length c, .bool p] 25)) 25 #[.slice b M.length d, .bool q]
  rw [World.size_alloc] at k2
  have c0 := k1.cell 0
  have c1 := k2.cell 0
  have HK : Hid (_ ∧ _) := ⟨k1, k2⟩
  clear k1 k2
  go_enter Try.func20, Try.ntmps20
  go_wp2_with fail
  generalize hW : (w.alloc (.cells #[.slice a N.length c, .bool p] 25)).alloc (.cells #[.slice b M.length d, .bool q] 25) = W at *
  clear c0 c1
  refine wp_region_partsS (fun U => Below W.heap.size W U) [([], 0, true), ([], 1, true), ([], 2, true), ([], 3, true), ([], 5, true), ([], 6, true), ([], 7, true), ([], 4, false), ([], 8, false)] [9] [] (by kernel_rfl) (by kernel_rfl) (Below.refl _ _).drew (partsI_yield ?_)
  simp only [List.cons_append, List.nil_append, List.append_nil, List.filterMap_cons, List.filterMap_nil, List.getElem?_toArray, List.getElem?_cons_zero, List.getElem?_cons_succ]
  go_wp2_with fail
  first
    | refine ⟨rfl, _, .pointer (some ⟨w.heap.size, 0, none⟩), rfl, Or.inl ⟨by rfl, fun U hU => by go_simp⟩, partsI_yield ?_⟩
    | refine ⟨rfl, .pointer (some ⟨w.heap.size, 0, none⟩), Or.inl ⟨by rfl, fun U hU => by go_simp⟩, partsI_yield ?_⟩
  simp only [Act.put, List.setIfInBounds_toArray, List.set_cons_zero, List.set_cons_succ]
  simp only [List.cons_append, List.nil_append, List.append_nil, List.filterMap_cons, List.filterMap_nil, List.getElem?_toArray, List.getElem?_cons_zero, List.getElem?_cons_succ]
  go_wp2_with fail
  first
    | refine ⟨rfl, _, .slice a N.length c, rfl, Or.inl ⟨by rfl, fun U hU => by have c1 := (HK.out.1.below hU HK.out.1.lt).cell 0; go_simp⟩, partsI_yield ?_⟩
    | refine ⟨rfl, .slice a N.length c, Or.inl ⟨by rfl, fun U hU => by have c1 := (HK.out.1.below hU HK.out.1.lt).cell 0; go_simp⟩, partsI_yield ?_⟩
  simp only [Act.put, List.setIfInBounds_toArray, List.set_cons_zero, List.set_cons_succ]
  simp only [List.cons_append, List.nil_append, List.append_nil, List.filterMap_cons, List.filterMap_nil, List.getElem?_toArray, List.getElem?_cons_zero, List.getElem?_cons_succ]
  go_wp2_with fail
  first
    | refine ⟨rfl, _, .pointer (some ⟨w.heap.size + 1, 0, none⟩), rfl, Or.inl ⟨by rfl, fun U hU => by go_simp⟩, partsI_yield ?_⟩
    | refine ⟨rfl, .pointer (some ⟨w.heap.size + 1, 0, none⟩), Or.inl ⟨by rfl, fun U hU => by go_simp⟩, partsI_yield ?_⟩
  simp only [Act.put, List.setIfInBounds_toArray, List.set_cons_zero, List.set_cons_succ]
  simp only [List.cons_append, List.nil_append, List.append_nil, List.filterMap_cons, List.filterMap_nil, List.getElem?_toArray, List.getElem?_cons_zero, List.getElem?_cons_succ]
  go_wp2_with fail
  first
    | refine ⟨rfl, _, .slice b M.length d, rfl, Or.inl ⟨by rfl, fun U hU => by have c1 := (HK.out.2.below hU HK.out.2.lt).cell 0; go_simp⟩, partsI_yield ?_⟩
    | refine ⟨rfl, .slice b M.length d, Or.inl ⟨by rfl, fun U hU => by have c1 := (HK.out.2.below hU HK.out.2.lt).cell 0; go_simp⟩, partsI_yield ?_⟩
  simp only [Act.put, List.setIfInBounds_toArray, List.set_cons_zero, List.set_cons_succ]
  simp only [List.cons_append, List.nil_append, List.append_nil, List.filterMap_cons, List.filterMap_nil, List.getElem?_toArray, List.getElem?_cons_zero, List.getElem?_cons_succ]
  go_wp2_with fail
  first
    | refine ⟨rfl, _, .pointer (some ⟨w.heap.size + 1, 0, none⟩), rfl, Or.inl ⟨by rfl, fun U hU => by go_simp⟩, partsI_yield ?_⟩
    | refine ⟨rfl, .pointer (some ⟨w.heap.size + 1, 0, none⟩), Or.inl ⟨by rfl, fun U hU => by go_simp⟩, partsI_yield ?_⟩
  simp only [Act.put, List.setIfInBounds_toArray, List.set_cons_zero, List.set_cons_succ]
  simp only [List.cons_append, List.nil_append, List.append_nil, List.filterMap_cons, List.filterMap_nil, List.getElem?_toArray, List.getElem?_cons_zero, List.getElem?_cons_succ]
  go_wp2_with fail
  first
    | refine ⟨rfl, _, .slice b M.length d, rfl, Or.inl ⟨by rfl, fun U hU => by have c1 := (HK.out.2.below hU HK.out.2.lt).cell 0; go_simp⟩, partsI_yield ?_⟩
    | refine ⟨rfl, .slice b M.length d, Or.inl ⟨by rfl, fun U hU => by have c1 := (HK.out.2.below hU HK.out.2.lt).cell 0; go_simp⟩, partsI_yield ?_⟩
  simp only [Act.put, List.setIfInBounds_toArray, List.set_cons_zero, List.set_cons_succ]
  simp only [List.cons_append, List.nil_append, List.append_nil, List.filterMap_cons, List.filterMap_nil, List.getElem?_toArray, List.getElem?_cons_zero, List.getElem?_cons_succ]
  go_wp2_with fail
  first
    | refine ⟨rfl, _, .int .i64 (M.length : Int), rfl, Or.inl ⟨by rfl, fun U hU => by go_simp⟩, partsI_force ?_⟩
    | refine ⟨rfl, .int .i64 (M.length : Int), Or.inl ⟨by rfl, fun U hU => by go_simp⟩, partsI_force ?_⟩
  simp only [Act.put, List.setIfInBounds_toArray, List.set_cons_zero, List.set_cons_succ]
  simp only [List.cons_append, List.nil_append, List.append_nil, List.filterMap_cons, List.filterMap_nil, List.getElem?_toArray, List.getElem?_cons_zero, List.getElem?_cons_succ]
  go_wp2_with fail
  refine (HX.out _ hb2.drew).mono ?_
  rintro e U1 ⟨rfl, n1, rfl⟩
  have hb3 : Below W.heap.size W (W.drew.drewN n1) := bdrewN (Below.refl _ _).drew n1
  have hb4 : Below w.heap.size w (W.drew.drewN n1) := bdrewN hb2.drew n1
  generalize W.drew.drewN n1 = U1 at *
  go_wp2_with fail
  refine ⟨rfl, hb3, partsI_force ?_⟩
  simp only [List.cons_append, List.nil_append, List.append_nil, List.filterMap_cons, List.filterMap_nil, List.getElem?_toArray, List.getElem?_cons_zero, List.getElem?_cons_succ]
  go_wp2_with fail
  refine ⟨rfl, hb3, partsI_last ?_⟩
  simp only [List.cons_append, List.nil_append, List.append_nil, List.filterMap_cons, List.filterMap_nil, List.getElem?_toArray, List.getElem?_cons_zero, List.getElem?_cons_succ]
  go_wp2_with fail
  refine ⟨rfl, ?_⟩
  go_wp2_with fail
  go_ret
  exact ⟨by simp [hrr], hb4⟩
end Go.Proofs.Ythoohhokoeihiaa

namespace Go.Proofs.Ythoohhokoeihiaa
open Go Go.RowKit Go.Shelf
set_option linter.unusedVariables false
set_option linter.unusedSimpArgs false
theorem prs_awake : prs [47, 97, 47, 47, 98, 47, 46, 47, 99, 47, 46, 46, 47, 100] = ([⟨#[97]⟩, ⟨#[98]⟩, ⟨#[100]⟩], false, 0, 0) := by kernel_rfl
set_option maxRecDepth 100000 in
set_option maxHeartbeats 4000000 in
theorem awake18_any (w : World) : Calls Try.prog 9 #[] w fun e w' => e = .returned (.bool true) ∧ Below w.heap.size w w' := by
  have HX : Hid (∀ w : World, Calls Try.prog 10 #[.string ⟨#[47, 97, 47, 47, 98, 47, 46, 47, 99, 47, 46, 46, 47, 100]⟩] w fun e w' => ∃ g cap, e = .returned (.tuple #[.agg #[.slice (some ⟨g, 0, none⟩) 3 cap, .bool false], .int .i64 0, .int .i64 0]) ∧ w'.cell? ⟨g, 2, none⟩ = some (.string ⟨#[100]⟩) ∧ g < w'.heap.size ∧ Below w.heap.size w w') := fun w => by
    refine (parse_any _ w).mono ?_
    rintro e w' ⟨v, he, ho, hb⟩
    have e1 : prs ((⟨#[47, 97, 47, 47, 98, 47, 46, 47, 99, 47, 46, 46, 47, 100]⟩ : ByteArray).data.toList) = ([⟨#[97]⟩, ⟨#[98]⟩, ⟨#[100]⟩], false, 0, 0) := prs_awake
    rw [e1] at he ho
    obtain ⟨g, cap, rfl⟩ := ownsRow_succ ho
    exact ⟨g, cap, he, ho.cellAt 2 (by decide), (ho.lt g rfl).2, hb⟩
  go_enter Try.func9, Try.ntmps9
  go_wp2_with fail
  refine (HX.out _).mono ?_
  rintro e w9 ⟨g, cap, rfl, hc, hg, hb⟩
  have hb2 := hb.alloc hb.size (.cells #[.slice (some ⟨g, 0, none⟩) 3 cap, .bool false] 25)
  have hc2 : (w9.alloc (.cells #[.slice (some ⟨g, 0, none⟩) 3 cap, .bool false] 25)).cell? ⟨g, 2, none⟩ = some (.string ⟨#[100]⟩) := (((Below.refl _ w9).alloc (Nat.le_refl _) _).cell (p := ⟨g, 2, none⟩) hg).trans hc
  go_wp2_with fail
  go_ret
  exact ⟨rfl, hb2⟩
end Go.Proofs.Ythoohhokoeihiaa
