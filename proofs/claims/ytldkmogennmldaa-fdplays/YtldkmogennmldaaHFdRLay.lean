/- Descriptors: the document's lists: one laid. -/
import Derived.Test.YtldkmogennmldaaHFdOpen
import Derived.OwnWalk
import Derived.Maps.AppendAt
import Derived.Handy

namespace Go.Proofs.Ytldkmogennmldaa
open Go Go.RowKit
set_option linter.unusedSimpArgs false
set_option linter.unusedVariables false
theorem fd_infoInt : (Try.prog.info? 3).map (fun i => (i.zero, i.size, i.bytes)) = some (some (.int .i64 0), 1, 8) := by kernel_rfl
theorem fd_info {t : TypeId} {z : Value} {s b : Nat} (h : (Try.prog.info? t).map (fun i => (i.zero, i.size, i.bytes)) = some (some z, s, b)) : ∃ i, Try.prog.info? t = some i ∧ i.zero = some z ∧ i.size = s ∧ i.bytes = b := by
  cases hq : Try.prog.info? t with
  | none => simp [hq] at h
  | some i =>
    simp [hq] at h
    exact ⟨i, rfl, h⟩
/-- numbers as values -/
def nvL (l : List Nat) : List Value := l.map fun (j : Nat) => Value.int .i64 ((j : Nat) : Int)
theorem nvL_at (l : List Nat) (i k : Nat) (h : l[i]? = some k) : (nvL l)[i]? = some (.int .i64 (k : Int)) := by simp [nvL, h]
/-- the first of them that are so -/
def soL (P : Nat → Bool) : Nat → List Nat
  | 0 => []
  | n + 1 => soL P n ++ (if P n = true then [n] else [])
theorem soL_le (P : Nat → Bool) : ∀ n, (soL P n).length ≤ n
  | 0 => Nat.le_refl _
  | n + 1 => by
    have := soL_le P n
    rw [soL, List.length_append]
    split <;> simp <;> omega
theorem soL_mem (P : Nat → Bool) : ∀ n k, k ∈ soL P n → k < n ∧ P k = true
  | 0, k, h => by simp [soL] at h
  | n + 1, k, h => by
    rw [soL, List.mem_append] at h
    rcases h with h | h
    · have := soL_mem P n k h
      exact ⟨by omega, this.2⟩
    · split at h
      · rename_i q
        simp at h
        subst h
        exact ⟨by omega, q⟩
      · simp at h
theorem soL_congr {P R : Nat → Bool} : ∀ n, (∀ j, j < n → P j = R j) → soL P n = soL R n
  | 0, _ => rfl
  | n + 1, h => by rw [soL, soL, soL_congr n fun j hj => h j (by omega), h n (by omega)]
set_option maxRecDepth 100000 in
set_option maxHeartbeats 8000000 in
theorem fall_gen (p : Value) (q : Nat → Option Addr) (w : World) (HO0 : ∀ V, Below w.heap.size w V → ∀ j : Nat, j < 64 → Calls Try.prog 27 #[p, .int .i64 (j : Int)] V fun e w' => e = .returned (.pointer (q j)) ∧ w' = V) :
    Calls Try.prog 24 #[p] w fun e w' => ∃ a c, e = .returned (.slice a (soL (fun j => (q j).isSome) 64).length c) ∧ w'.ownsRow w.heap.size 3 1 (.slice a (soL (fun j => (q j).isSome) 64).length c) (soL (fun j => (q j).isSome) 64).length (nvL (soL (fun j => (q j).isSome) 64)) ∧ Below w.heap.size w w' := by
  obtain ⟨i0, hi, hz0, hz1, hz2⟩ := fd_info fd_infoInt
  obtain ⟨P, hP⟩ : ∃ P : Nat → Bool, P = fun j => (q j).isSome := ⟨_, rfl⟩
  rw [← hP]
  have HPQ : Hid (∀ j, P j = (q j).isSome) := fun j => by rw [hP]
  have HO : Hid (∀ V, Below w.heap.size w V → ∀ j K : Nat, K = 64 → j < K → Calls Try.prog 27 #[p, .int .i64 (j : Int)] V fun e w' => e = .returned (.pointer (q j)) ∧ w' = V) := fun V hV j K hK hj => HO0 V hV j (by omega)
  clear HO0 hP
  go_enter Try.func24, Try.ntmps24
  go_wp2_with fail
  go_loopw [3, 5] (fun v t wr => Hid (∃ (j m cap : Nat) (a : Option Addr), j ≤ 64 ∧ t = .int .i64 (j : Int) ∧ (soL P j).length = m ∧ v = .slice a m cap ∧ wr.ownsRow w.heap.size 3 1 v m (nvL (soL P j)) ∧ Below w.heap.size w wr)) (fun _ t _ => 64 - (intOf t).toNat)
  case atStart => exact ⟨0, 0, 0, none, by omega, rfl, rfl, rfl, ⟨by simp [nvL, soL], .inl ⟨rfl, rfl⟩⟩, Below.refl _ _⟩
  case round =>
    obtain ⟨j, m, cap, a, hj, rfl, hm, rfl, hown, hb⟩ := Hid.out hrel
    clear hrel
    by_cases hj6 : j < 64
    · have j1 : (j : Int) < 64 := by omega
      have H1 := HO.out wr hb j 64 rfl hj6
      have HJ : Hid (j < 64 ∧ (soL P j).length = m ∧ m ≤ 64) := ⟨hj6, hm, by have := soL_le P j; omega⟩
      have HW : Hid (wr.ownsRow w.heap.size 3 1 (.slice a m cap) m (nvL (soL P j)) ∧ Below w.heap.size w wr) := ⟨hown, hb⟩
      have hso : soL P (j + 1) = soL P j ++ (if P j = true then [j] else []) := rfl
      have hpq := HPQ.out j
      clear hown hb hj hj6 hm
      cases hq : q j with
      | none =>
        rw [hq] at H1 hpq
        rw [hpq] at hso
        have HS : Hid (soL P (j + 1) = soL P j) := by show soL P (j + 1) = soL P j; rw [hso]; simp
        clear hq hpq hso
        go_wp2_with fail
        refine H1.mono ?_
        rintro e w2 ⟨rfl, rfl⟩
        clear H1
        go_wp2_with fail
        go_roundw
        case rel => exact ⟨j + 1, m, cap, a, HJ.out.1, by first | rfl | go_num | simp, by rw [HS.out]; exact HJ.out.2.1, rfl, by rw [HS.out]; exact HW.out.1, HW.out.2⟩
        case measure => have := HJ.out; simp [intOf]; omega
      | some ad =>
        rw [hq] at H1 hpq
        rw [hpq] at hso
        have HS : Hid (soL P (j + 1) = soL P j ++ [j]) := by show soL P (j + 1) = _; rw [hso]; simp
        have hv := HW.out.1.lt
        have hmb := HJ.out.2.2
        have hsz := HW.out.2.size
        clear hq hpq hso
        go_wp2_with fail
        refine H1.mono ?_
        rintro e w2 ⟨rfl, rfl⟩
        clear H1
        go_wp2_with (first
          | (at_builtin; refine wpList_append_own _ rfl _ _ 48 rfl (w.heap.size) 3 i0 (.int .i64 0) 1 8 Try.underlying48 hi hz0 hz1 hz2 rfl (by decide) _ _ _ rfl (HW.out.1.alloc _) ⟨w2.heap.size, 0, none⟩ 1 1 [.int .i64 (j : Int)] rfl rfl (cell_one_new _ _ _) (fun x hx => by simp at hx; subst hx; rfl) (by unfold maxLen; omega) (by omega) (by simp; omega) ?_)
          | go_in)
        intro v' w7 hown' hgrow _
        have hb7 : Below w.heap.size w w7 := (HW.out.2.alloc (by omega) _).grown hgrow (by simp; omega) (fun k hk => (hv k hk).1)
        have hown7 : w7.ownsRow w.heap.size 3 1 v' (m + 1) (nvL (soL P (j + 1))) := by
          rw [HS.out]
          simpa [nvL] using hown'
        obtain ⟨g3, cap3, hv3⟩ := kown_slice hown7
        subst hv3
        clear hv hgrow hown'
        go_wp2_with fail
        go_roundw
        case rel => exact ⟨j + 1, m + 1, cap3, g3, HJ.out.1, by first | rfl | go_num | simp, by rw [HS.out, List.length_append, HJ.out.2.1]; rfl, rfl, hown7, hb7⟩
        case measure => have := HJ.out; simp [intOf]; omega
    · have e : j = 64 := by omega
      subst e
      have j1 : ¬ ((64 : Int) < 64) := by decide
      have HX : Hid ((soL P 64).length = m ∧ wr.ownsRow w.heap.size 3 1 (.slice a m cap) m (nvL (soL P 64)) ∧ Below w.heap.size w wr) := ⟨hm, hown, hb⟩
      clear hown hb hj hj6 hm
      go_wp2_with fail
      go_ret
      exact ⟨a, cap, by rw [HX.out.1]; rfl, by rw [HX.out.1]; exact HX.out.2.1, HX.out.2.2⟩
/-- which of them are open -/
def opP (O : Nat → Dsc) (j : Nat) : Bool := (O j).i != 0
section
variable {b : Nat} {O : Nat → Dsc}
theorem fof_opP (w V : World) (h : FdB w b O) (hV : Below w.heap.size w V) (j : Nat) (hj : j < 64) : Calls Try.prog 27 #[.pointer (some ⟨b, 0, none⟩), .int .i64 (j : Int)] V fun e w' => e = .returned (.pointer (if opP O j = true then some ⟨b, j * 3, none⟩ else none)) ∧ w' = V := by
  by_cases c : (O j).i = 0
  · rw [if_neg (by simp [opP, c])]
    exact fof_nat b O j hj c V (h.below hV)
  · rw [if_pos (by simp [opP, c])]
    exact fof_yes b O j hj c V (h.below hV)
theorem fall_any (w : World) (h : FdB w b O) : Calls Try.prog 24 #[.pointer (some ⟨b, 0, none⟩)] w fun e w' => ∃ a c, e = .returned (.slice a (soL (opP O) 64).length c) ∧ w'.ownsRow w.heap.size 3 1 (.slice a (soL (opP O) 64).length c) (soL (opP O) 64).length (nvL (soL (opP O) 64)) ∧ Below w.heap.size w w' := by
  have := fall_gen (.pointer (some ⟨b, 0, none⟩)) (fun j => if opP O j = true then some ⟨b, j * 3, none⟩ else none) w (fun V hV j hj => fof_opP w V h hV j hj)
  have e : soL (fun j => (if opP O j = true then some (⟨b, j * 3, none⟩ : Addr) else none).isSome) 64 = soL (opP O) 64 := soL_congr 64 fun j _ => by
    cases opP O j <;> rfl
  rw [e] at this
  exact this
theorem flen_gen (p : Value) (n : Nat) (hn : n ≤ 64) (w : World) (HA : Calls Try.prog 24 #[p] w fun e w' => ∃ a c, e = .returned (.slice a n c) ∧ Below w.heap.size w w') : Calls Try.prog 18 #[p] w fun e w' => e = .returned (.int .i64 (n : Int)) ∧ Below w.heap.size w w' := by
  have h1 : (n : Int) ≤ 64 := by omega
  go_enter Try.func18, Try.ntmps18
  go_wp2_with fail
  refine HA.mono ?_
  rintro e w1 ⟨a, c, rfl, hb⟩
  have HB : Hid (Below w.heap.size w w1) := hb
  clear hb HA
  go_wp2_with fail
  go_ret
  exact ⟨rfl, HB.out⟩
theorem flen_any (w : World) (h : FdB w b O) : Calls Try.prog 18 #[.pointer (some ⟨b, 0, none⟩)] w fun e w' => e = .returned (.int .i64 ((soL (opP O) 64).length : Int)) ∧ Below w.heap.size w w' :=
  flen_gen _ _ (soL_le _ _) w ((fall_any w h).mono fun e w' ⟨a, c, h1, _, h3⟩ => ⟨a, c, h1, h3⟩)
/-- how many of the first have this inode -/
def usN (O : Nat → Dsc) (i : Int) : List Nat → Nat
  | [] => 0
  | j :: l => (if (O j).i = i then 1 else 0) + usN O i l
theorem usN_app (O : Nat → Dsc) (i : Int) (j : Nat) : ∀ l, usN O i (l ++ [j]) = usN O i l + (if (O j).i = i then 1 else 0)
  | [] => by simp [usN]
  | k :: l => by simp [usN, usN_app O i j l]; omega
theorem usN_le (O : Nat → Dsc) (i : Int) : ∀ l, usN O i l ≤ l.length
  | [] => Nat.le_refl _
  | k :: l => by
    have := usN_le O i l
    simp only [usN, List.length_cons]
    split <;> omega
theorem take_next {α : Type} {l : List α} {k : Nat} {x : α} (h : l[k]? = some x) : l.take (k + 1) = l.take k ++ [x] := by
  rw [List.take_add_one, h]; rfl
set_option maxRecDepth 100000 in
set_option maxHeartbeats 8000000 in
theorem fuses_any (i : Int) (w : World) (h : FdB w b O) : Calls Try.prog 23 #[.pointer (some ⟨b, 0, none⟩), .int .i64 i] w fun e w' => e = .returned (.int .i64 (usN O i (soL (opP O) 64) : Int)) ∧ Below w.heap.size w w' := by
  have HA := fall_any w h
  have hll : (soL (opP O) 64).length ≤ 64 := soL_le _ _
  have HM : Hid (∀ k j : Nat, (soL (opP O) 64)[k]? = some j → j < 64) := fun k j hj => (soL_mem _ _ j (List.mem_of_getElem? hj)).1
  have HF : Hid (∀ V, Below w.heap.size w V → FdB V b O) := fun V hV => h.below hV
  generalize soL (opP O) 64 = L at *
  clear h
  go_enter Try.func23, Try.ntmps23
  go_wp2_with fail
  refine HA.mono ?_
  rintro e w1 ⟨a, c, rfl, hown, hb⟩
  have HB : Hid (Below w.heap.size w w1 ∧ FdB w1 b O ∧ L.length ≤ 64) := ⟨hb, HF.out w1 hb, hll⟩
  have HR : Hid (∀ k j : Nat, L[k]? = some j → ∃ g, a = some ⟨g, 0, none⟩ ∧ w1.cell? ⟨g, k, none⟩ = some (.int .i64 (j : Int))) := fun k j hj => by
    obtain ⟨g, cap, e1, _, _⟩ := kown_form hown (by have := (List.getElem?_eq_some_iff.1 hj).1; omega)
    injection e1 with e1 _ e3
    subst e1
    refine ⟨g, rfl, ?_⟩
    have := hown.cells (g := g) rfl k (.int .i64 (j : Int)) (nvL_at L k j hj)
    rw [Addr.add_mid, Nat.zero_add] at this
    exact this
  have h64 : (L.length : Int) ≤ 64 := by omega
  clear hb HA hown HF
  go_wp2_with fail
  go_loopw [5, 11] (fun u v wr => Hid (∃ k : Nat, k ≤ L.length ∧ u = .int .i64 ((usN O i (L.take k) : Nat) : Int) ∧ v = .int .i64 (k : Int) ∧ wr = w1)) (fun _ v _ => L.length - (intOf v).toNat)
  case atStart => exact ⟨0, Nat.zero_le _, rfl, rfl, rfl⟩
  case round =>
    obtain ⟨k, hk, rfl, rfl, rfl⟩ := Hid.out hrel
    clear hrel
    by_cases hkl : k < L.length
    · obtain ⟨j, hj⟩ : ∃ j, L[k]? = some j := ⟨_, List.getElem?_eq_getElem hkl⟩
      obtain ⟨g, rfl, cg⟩ := HR.out k j hj
      have hj64 := HM.out k j hj
      have cf := HB.out.2.1.cell j 0 hj64 (by decide)
      rw [show dsF (O j) 0 = (O j).i from rfl, Nat.add_zero] at cf
      have j1 : (k : Int) < (L.length : Int) := by omega
      have j2 : (j : Int) < 64 := by omega
      have j3 : (0 : Int) ≤ (j : Int) := by omega
      have hus : usN O i (L.take (k + 1)) = usN O i (L.take k) + (if (O j).i = i then 1 else 0) := by rw [take_next hj, usN_app]
      have hun : usN O i (L.take k) ≤ 64 := by have := usN_le O i (L.take k); rw [List.length_take] at this; omega
      have HU : Hid (usN O i (L.take (k + 1)) = usN O i (L.take k) + (if (O j).i = i then 1 else 0)) := hus
      have HK : Hid (k < L.length) := hkl
      obtain ⟨u, hu⟩ : ∃ u, usN O i (L.take k) = u := ⟨_, rfl⟩
      rw [hu] at hun HU ⊢
      have hu64 : (u : Int) ≤ 64 := by omega
      obtain ⟨I, hI⟩ : ∃ I, (O j).i = I := ⟨_, rfl⟩
      rw [hI] at cf HU
      clear hus hk hkl hj hu hI
      by_cases hi : I = i
      · subst hi
        have hu1 : usN O I (L.take (k + 1)) = u + 1 := by rw [HU.out, if_pos rfl]
        have HU1 : Hid (usN O I (L.take (k + 1)) = u + 1) := hu1
        clear hu1 HU
        go_wp2_with fail
        go_roundw
        case rel => exact ⟨k + 1, HK.out, by rw [HU1.out]; first | rfl | go_num | simp, by first | rfl | go_num | simp, by first | rfl | trivial⟩
        case measure => have := HK.out; simp [intOf]; omega
      · have HU1 : Hid (usN O i (L.take (k + 1)) = u) := by show usN O i (L.take (k + 1)) = u; rw [HU.out, if_neg hi]; rfl
        clear HU
        go_wp2_with fail
        go_roundw
        case rel => exact ⟨k + 1, HK.out, by rw [HU1.out], by first | rfl | go_num | simp, by first | rfl | trivial⟩
        case measure => have := HK.out; simp [intOf]; omega
    · have e : k = L.length := by omega
      subst e
      rw [List.take_length]
      have j1 : ¬ ((L.length : Int) < (L.length : Int)) := by omega
      clear hk hkl
      go_wp2_with fail
      go_ret
      exact ⟨rfl, HB.out.1⟩
end
end Go.Proofs.Ytldkmogennmldaa

namespace Go.Proofs.Ytldkmogennmldaa
open Go Go.RowKit
set_option linter.unusedSimpArgs false
set_option linter.unusedVariables false
theorem fseek_gen (p : Value) (n by_ wh z : Int) (w : World) (H1 : Calls Try.prog 27 #[p, .int .i64 n] w fun e w' => e = .returned (.pointer none) ∧ w' = w) : Calls Try.prog 21 #[p, .int .i64 n, .int .i64 by_, .int .i64 wh, .int .i64 z] w fun e w' => e = .returned (.tuple #[.int .i64 0, .int .i64 231]) ∧ w' = w := by
  go_enter Try.func21, Try.ntmps21
  go_wp2_with fail
  refine H1.mono ?_
  rintro e w2 ⟨rfl, rfl⟩
  go_wp2_with fail
  go_ret2
  exact ⟨rfl, rfl⟩
section
variable {b : Nat} {O : Nat → Dsc} {n : Int}
theorem fseek_arg (by_ wh z : Int) (w : World) (h : FdB w b O) (ho : opn O n) (ha : ¬ (0 ≤ z ∧ z ≤ 1048576) ∨ ¬ (0 ≤ wh ∧ wh ≤ 2)) : Calls Try.prog 21 #[.pointer (some ⟨b, 0, none⟩), .int .i64 n, .int .i64 by_, .int .i64 wh, .int .i64 z] w fun e w' => e = .returned (.tuple #[.int .i64 0, .int .i64 1]) ∧ w' = w := by
  have H1 := fof_opn ho w h
  have H2 := fmaybe_any z w
  generalize n.toNat = k at *
  by_cases hz : 0 ≤ z ∧ z ≤ 1048576
  · rw [decide_eq_true hz] at H2
    have w0 : ¬ wh = 0 := by omega
    have w1 : ¬ wh = 1 := by omega
    have w2 : ¬ wh = 2 := by omega
    clear ho h hz ha
    go_enter Try.func21, Try.ntmps21
    go_wp2_with fail
    refine H1.mono ?_
    rintro e w2 ⟨rfl, rfl⟩
    go_wp2_with fail
    refine H2.mono ?_
    rintro e w2 ⟨rfl, rfl⟩
    go_wp2_with fail
    go_ret2
    exact ⟨rfl, rfl⟩
  · rw [decide_eq_false hz] at H2
    clear ho h hz ha
    go_enter Try.func21, Try.ntmps21
    go_wp2_with fail
    refine H1.mono ?_
    rintro e w2 ⟨rfl, rfl⟩
    go_wp2_with fail
    refine H2.mono ?_
    rintro e w2 ⟨rfl, rfl⟩
    go_wp2_with fail
    go_ret2
    exact ⟨rfl, rfl⟩
/-- what a place is counted from -/
def fromI (wh a z : Int) : Int := if wh = 0 then 0 else if wh = 1 then a else z
theorem from_in (wh a z : Int) (ha : 0 ≤ a ∧ a ≤ 1048576) (hz : 0 ≤ z ∧ z ≤ 1048576) : 0 ≤ fromI wh a z ∧ fromI wh a z ≤ 1048576 := by
  unfold fromI
  by_cases h : wh = 0
  · rw [if_pos h]; omega
  · rw [if_neg h]
    by_cases h2 : wh = 1
    · rw [if_pos h2]; exact ha
    · rw [if_neg h2]; exact hz
set_option maxHeartbeats 4000000 in
theorem fseek_bad (by_ wh z : Int) (w : World) (h : FdB w b O) (ho : opn O n) (hz : 0 ≤ z ∧ z ≤ 1048576) (hw : 0 ≤ wh ∧ wh ≤ 2) (hA : 0 ≤ (O n.toNat).a ∧ (O n.toNat).a ≤ 1048576) (ha : by_ < -(fromI wh (O n.toNat).a z) ∨ 1048576 - (fromI wh (O n.toNat).a z) < by_) : Calls Try.prog 21 #[.pointer (some ⟨b, 0, none⟩), .int .i64 n, .int .i64 by_, .int .i64 wh, .int .i64 z] w fun e w' => e = .returned (.tuple #[.int .i64 0, .int .i64 233]) ∧ w' = w := by
  have H1 := fof_opn ho w h
  have H2 := fmaybe_any z w
  rw [decide_eq_true hz] at H2
  have hn : n.toNat < 64 := by have := ho.1; have := ho.2.1; omega
  have c2 := h.cell n.toNat 2 hn (by decide)
  rw [show dsF (O n.toNat) 2 = (O n.toNat).a from rfl] at c2
  generalize (O n.toNat).a = A at *
  generalize n.toNat = k at *
  obtain ⟨z1, z2⟩ := hz
  obtain ⟨A1, A2⟩ := hA
  clear ho h hn
  have h3 : wh = 0 ∨ wh = 1 ∨ wh = 2 := by omega
  clear hw
  have key : ∀ fr : Int, fr = fromI wh A z → 0 ≤ fr ∧ fr ≤ 1048576 ∧ (by_ < -fr ∨ (¬ by_ < -fr ∧ 1048576 - fr < by_)) := fun fr hf => by
    subst hf
    refine ⟨?_, ?_, by omega⟩
    · exact (from_in wh A z ⟨A1, A2⟩ ⟨z1, z2⟩).1
    · exact (from_in wh A z ⟨A1, A2⟩ ⟨z1, z2⟩).2
  clear ha
  rcases h3 with rfl | rfl | rfl
  · obtain ⟨_, _, hk⟩ := key 0 rfl
    clear key
    rcases hk with k1 | ⟨k1, k2⟩
    all_goals
      go_enter Try.func21, Try.ntmps21
      go_wp2_with fail
      refine H1.mono ?_
      rintro e w2 ⟨rfl, rfl⟩
      go_wp2_with fail
      refine H2.mono ?_
      rintro e w2 ⟨rfl, rfl⟩
      go_wp2_with fail
      go_ret2
      exact ⟨rfl, rfl⟩
  · obtain ⟨_, _, hk⟩ := key A rfl
    clear key
    rcases hk with k1 | ⟨k1, k2⟩
    all_goals
      go_enter Try.func21, Try.ntmps21
      go_wp2_with fail
      refine H1.mono ?_
      rintro e w2 ⟨rfl, rfl⟩
      go_wp2_with fail
      refine H2.mono ?_
      rintro e w2 ⟨rfl, rfl⟩
      go_wp2_with fail
      go_ret2
      exact ⟨rfl, rfl⟩
  · obtain ⟨_, _, hk⟩ := key z rfl
    clear key
    rcases hk with k1 | ⟨k1, k2⟩
    all_goals
      go_enter Try.func21, Try.ntmps21
      go_wp2_with fail
      refine H1.mono ?_
      rintro e w2 ⟨rfl, rfl⟩
      go_wp2_with fail
      refine H2.mono ?_
      rintro e w2 ⟨rfl, rfl⟩
      go_wp2_with fail
      go_ret2
      exact ⟨rfl, rfl⟩
set_option maxHeartbeats 4000000 in
theorem fseek_ok (by_ wh z : Int) (w : World) (h : FdB w b O) (ho : opn O n) (hz : 0 ≤ z ∧ z ≤ 1048576) (hw : 0 ≤ wh ∧ wh ≤ 2) (hA : 0 ≤ (O n.toNat).a ∧ (O n.toNat).a ≤ 1048576) (r : Int) (hr : r = fromI wh (O n.toNat).a z + by_) (h1 : 0 ≤ r) (h2 : r ≤ 1048576) : Calls Try.prog 21 #[.pointer (some ⟨b, 0, none⟩), .int .i64 n, .int .i64 by_, .int .i64 wh, .int .i64 z] w fun e w' => e = .returned (.tuple #[.int .i64 r, .int .i64 0]) ∧ FdB w' b (upD O n.toNat ⟨(O n.toNat).i, (O n.toNat).g, r⟩) ∧ OneT b w w' := by
  have H1 := fof_opn ho w h
  have H2 := fmaybe_any z w
  rw [decide_eq_true hz] at H2
  have hn : n.toNat < 64 := by have := ho.1; have := ho.2.1; omega
  have c2 := h.cell n.toNat 2 hn (by decide)
  rw [show dsF (O n.toNat) 2 = (O n.toNat).a from rfl] at c2
  have f2 := Blk.frozen h (n.toNat * 3 + 2)
  have hp := h.put2 n.toNat hn r
  have c3 : (w.setCell ⟨b, n.toNat * 3 + 2, none⟩ (.int .i64 r)).cell? ⟨b, n.toNat * 3 + 2, none⟩ = some (.int .i64 r) := by
    have := hp.cell n.toNat 2 hn (by decide)
    rw [show upD O n.toNat ⟨(O n.toNat).i, (O n.toNat).g, r⟩ n.toNat = ⟨(O n.toNat).i, (O n.toNat).g, r⟩ from if_pos rfl] at this
    exact this
  have HE : Hid (FdB (w.setCell ⟨b, n.toNat * 3 + 2, none⟩ (.int .i64 r)) b (upD O n.toNat ⟨(O n.toNat).i, (O n.toNat).g, r⟩) ∧ OneT b w (w.setCell ⟨b, n.toNat * 3 + 2, none⟩ (.int .i64 r))) := ⟨hp, OneT.cell _ _ _ _⟩
  clear hp
  generalize upD O n.toNat ⟨(O n.toNat).i, (O n.toNat).g, r⟩ = O2 at *
  generalize (O n.toNat).a = A at *
  generalize n.toNat = k at *
  obtain ⟨z1, z2⟩ := hz
  obtain ⟨A1, A2⟩ := hA
  clear ho h hn
  have h3 : wh = 0 ∨ wh = 1 ∨ wh = 2 := by omega
  clear hw
  have key : ∀ fr : Int, fr = fromI wh A z → 0 ≤ fr ∧ fr ≤ 1048576 ∧ ¬ by_ < -fr ∧ ¬ 1048576 - fr < by_ ∧ fr + by_ = r := fun fr hf => by
    rw [← hf] at hr
    refine ⟨?_, ?_, by omega, by omega, hr.symm⟩
    · rw [hf]; exact (from_in wh A z ⟨A1, A2⟩ ⟨z1, z2⟩).1
    · rw [hf]; exact (from_in wh A z ⟨A1, A2⟩ ⟨z1, z2⟩).2
  have HR : Hid (0 ≤ r ∧ r ≤ 1048576) := ⟨h1, h2⟩
  clear hr
  rcases h3 with rfl | rfl | rfl
  · obtain ⟨_, _, k1, k2, k3⟩ := key 0 rfl
    rw [Int.zero_add] at k3
    subst k3
    clear key
    go_enter Try.func21, Try.ntmps21
    go_wp2_with fail
    refine H1.mono ?_
    rintro e w2 ⟨rfl, rfl⟩
    go_wp2_with fail
    refine H2.mono ?_
    rintro e w2 ⟨rfl, rfl⟩
    go_wp2_with fail
    go_ret2
    exact ⟨rfl, HE.out.1, HE.out.2⟩
  · obtain ⟨_, _, k1, k2, k3⟩ := key A rfl
    clear key
    go_enter Try.func21, Try.ntmps21
    go_wp2_with fail
    refine H1.mono ?_
    rintro e w2 ⟨rfl, rfl⟩
    go_wp2_with fail
    refine H2.mono ?_
    rintro e w2 ⟨rfl, rfl⟩
    go_wp2_with fail
    go_ret2
    exact ⟨rfl, HE.out.1, HE.out.2⟩
  · obtain ⟨_, _, k1, k2, k3⟩ := key z rfl
    clear key
    go_enter Try.func21, Try.ntmps21
    go_wp2_with fail
    refine H1.mono ?_
    rintro e w2 ⟨rfl, rfl⟩
    go_wp2_with fail
    refine H2.mono ?_
    rintro e w2 ⟨rfl, rfl⟩
    go_wp2_with fail
    go_ret2
    exact ⟨rfl, HE.out.1, HE.out.2⟩
end
end Go.Proofs.Ytldkmogennmldaa

namespace Go.Proofs.Ytldkmogennmldaa
open Go Go.RowKit
set_option linter.unusedSimpArgs false
set_option linter.unusedVariables false
/-- the document's description -/
structure Ro where
  on : Bool
  d : Dsc
def roC (x : Ro) : Array Value := #[.bool x.on, .int .i64 x.d.i, .int .i64 x.d.g, .int .i64 x.d.a]
def ro0 : Ro := ⟨false, ds0⟩
def roL : List Ro → List Value
  | [] => []
  | x :: l => (roC x).toList ++ roL l
theorem roL_len : ∀ l : List Ro, (roL l).length = l.length * 4
  | [] => rfl
  | x :: l => by rw [roL, List.length_append, roL_len l]; show 4 + _ = _; simp; omega
theorem roL_app : ∀ l m : List Ro, roL (l ++ m) = roL l ++ roL m
  | [], m => rfl
  | x :: l, m => by simp [roL, roL_app l m]
theorem roL_one : ∀ l : List Ro, ∀ u ∈ roL l, u.oneCell' = true
  | [], u, h => by simp [roL] at h
  | x :: l, u, h => by
    rw [roL, List.mem_append] at h
    rcases h with h | h
    · simp [roC] at h
      rcases h with rfl | rfl | rfl | rfl <;> rfl
    · exact roL_one l u h
theorem roL_at : ∀ (L : List Ro) (j : Nat) (x : Ro), L[j]? = some x → ∀ k u, (roC x)[k]? = some u → (roL L)[j * 4 + k]? = some u
  | [], j, x, h, k, u, hu => by simp at h
  | y :: L, 0, x, h, k, u, hu => by
    simp at h
    subst h
    have hk : k < 4 := (Array.getElem?_eq_some_iff.1 hu).1
    rw [roL, Nat.zero_mul, Nat.zero_add, List.getElem?_append_left (by rw [Array.length_toList]; exact hk), Array.getElem?_toList]
    exact hu
  | y :: L, j + 1, x, h, k, u, hu => by
    have ih := roL_at L j x (by simpa using h) k u hu
    rw [roL, List.getElem?_append_right (by rw [Array.length_toList]; show 4 ≤ _; omega), ← ih]
    congr 1
    rw [Array.length_toList]
    show (j + 1) * 4 + k - 4 = _
    omega
/-- a list lies in a block -/
def IsRo (w : World) (g : Nat) (L : List Ro) : Prop := g < w.heap.size ∧ ∀ j u, (roL L)[j]? = some u → w.cell? ⟨g, j, none⟩ = some u
theorem IsRo.below {w w' : World} {g : Nat} {L : List Ro} (h : IsRo w g L) (hb : Below w.heap.size w w') : IsRo w' g L :=
  ⟨Nat.lt_of_lt_of_le h.1 hb.size, fun j u hu => (hb.cell (p := ⟨g, j, none⟩) h.1).trans (h.2 j u hu)⟩
theorem IsRo.turn {w w' : World} {b g : Nat} {L : List Ro} (h : IsRo w g L) (ht : OneT b w w') (hne : g ≠ b) : IsRo w' g L :=
  ⟨Nat.lt_of_lt_of_le h.1 ht.size, fun j u hu => (World.cell?_of_block (a := ⟨g, j, none⟩) (ht.block g h.1 hne)).trans (h.2 j u hu)⟩
theorem IsRo.at_ {w : World} {g : Nat} {L : List Ro} (h : IsRo w g L) {j : Nat} {x : Ro} (hj : L[j]? = some x) (k : Nat) (u : Value) (hu : (roC x)[k]? = some u) : w.cell? ⟨g, j * 4 + k, none⟩ = some u := h.2 _ _ (roL_at L j x hj k u hu)
def onL (L : List Ro) (j : Nat) : Bool := match L[j]? with
  | some x => x.on
  | none => false
def dL (L : List Ro) (j : Nat) : Dsc := match L[j]? with
  | some x => x.d
  | none => ds0
theorem onL_some {L : List Ro} {j : Nat} (h : onL L j = true) : ∃ x, L[j]? = some x ∧ x.on = true ∧ dL L j = x.d := by
  unfold onL at h
  unfold dL
  cases hx : L[j]? with
  | none => rw [hx] at h; cases h
  | some x => rw [hx] at h; exact ⟨x, rfl, h, rfl⟩
theorem infoRo : (Try.prog.info? 64).map (fun i => (i.zero, i.size, i.bytes)) = some (some (.agg (roC ro0)), 4, 32) := by kernel_rfl
theorem ro_size : (Try.prog.info? 64).map (·.size) = some 4 := by kernel_rfl
theorem ro_zero (w : World) : (zeroValue 64).run Try.prog w = .ok (.agg (roC ro0)) w := fz_of (by kernel_rfl) w
theorem ro_built0 : Try.prog.built 64 [] = some (roC ro0) := by kernel_rfl
theorem ro_all (x : Ro) : (roC x).all (·.oneCell') = true := by simp [roC, Value.oneCell']
theorem IsRo.range {w : World} {g : Nat} {L : List Ro} (h : IsRo w g L) {j : Nat} {x : Ro} (hj : L[j]? = some x) : w.rangeAt g (j * 4) (roC x).toList := fun k v hv => h.at_ hj k v (by rw [← Array.getElem?_toList]; exact hv)
section
variable {g c : Nat} {L : List Ro}
set_option maxRecDepth 100000 in
set_option maxHeartbeats 4000000 in
theorem rget_yes (hlen : L.length ≤ 64) (j : Nat) (x : Ro) (hj : L[j]? = some x) (hx : x.on = true) (w : World) (h : IsRo w g L) : Calls Try.prog 33 #[.slice (some ⟨g, 0, none⟩) L.length c, .int .i64 (j : Int)] w fun e w' => e = .returned (.tuple #[.agg (roC x), .int .i64 0]) ∧ Below w.heap.size w w' := by
  have hz := ro_zero
  have hb1 : Below w.heap.size w (w.alloc (.cells (roC ro0) 64)) := below_new1 _ _
  have u1 : Blk (w.alloc (.cells (roC ro0) 64)) w.heap.size 64 (roC ro0) := Blk.new _ _ _
  have h1 := h.below hb1
  have c0 := h1.at_ hj 0 (.bool x.on) rfl
  rw [Nat.add_zero, hx] at c0
  have hr := h1.range hj
  have hjl := (List.getElem?_eq_some_iff.1 hj).1
  have HE : Hid (Blk ((w.alloc (.cells (roC ro0) 64)).setRow w.heap.size (roC x)) w.heap.size 64 (roC x) ∧ Below w.heap.size w ((w.alloc (.cells (roC ro0) 64)).setRow w.heap.size (roC x))) := ⟨u1.set _, below_setRow hb1 (Nat.le_refl _) _⟩
  have i1 : ¬ (j : Int) < 0 := by omega
  have i2 : ¬ (L.length : Int) ≤ (j : Int) := by omega
  have i3 : (j : Int) < (L.length : Int) := by omega
  have i4 : (0 : Int) ≤ (j : Int) := by omega
  have i5 : (L.length : Int) ≤ 64 := by omega
  have hsx : (roC x).size = 4 := rfl
  clear h h1 hb1 hj hx hjl hlen
  go_enter Try.func33, Try.ntmps33
  go_wp2_with (first
    | (refine wpList_load_mid (by rfl) 64 _ (by rfl) g (j * 4) (by rfl) (roC x).toList _ (by exact hr) Try.underlying64 (by rfl) (ro_size.trans (by rfl)) ?_; simp only [Act.put, List.setIfInBounds_toArray, List.set_cons_zero, List.set_cons_succ, Array.toArray_toList])
    | (refine wpList_store_row (by rfl) 64 _ _ (by rfl) (w.heap.size) (roC x) (by rfl) (by rfl) 64 (roC ro0) (by exact u1) (ro_size.trans (by rfl)) (by rfl) (ro_all _) ?_; simp only [Act.put, List.setIfInBounds_toArray, List.set_cons_zero, List.set_cons_succ])
    | fail)
  try simp only [Exit.inBlock, Exit.then]
  refine bodyPost_ret (results_row2 Try.results33 _ _ (w.heap.size) 64 (roC x) (0, 0) _ rfl HE.out.1 Try.underlying64 rfl (ro_size.trans (by rfl))) rfl ?_
  exact ⟨rfl, HE.out.2⟩
set_option maxRecDepth 100000 in
set_option maxHeartbeats 4000000 in
theorem rget_no (hlen : L.length ≤ 64) (n : Int) (hn : ¬ (0 ≤ n ∧ onL L n.toNat = true)) (w : World) (h : IsRo w g L) : Calls Try.prog 33 #[.slice (some ⟨g, 0, none⟩) L.length c, .int .i64 n] w fun e w' => e = .returned (.tuple #[.agg (roC ro0), .int .i64 231]) ∧ Below w.heap.size w w' := by
  have hz := ro_zero
  have hbt := ro_built0
  have hb1 : Below w.heap.size w (w.alloc (.cells (roC ro0) 64)) := below_new1 _ _
  have u1 : Blk (w.alloc (.cells (roC ro0) 64)) w.heap.size 64 (roC ro0) := Blk.new _ _ _
  have h1 := h.below hb1
  have HE : Hid (Blk ((w.alloc (.cells (roC ro0) 64)).setRow w.heap.size (roC ro0)) w.heap.size 64 (roC ro0) ∧ Below w.heap.size w ((w.alloc (.cells (roC ro0) 64)).setRow w.heap.size (roC ro0))) := ⟨u1.set _, below_setRow hb1 (Nat.le_refl _) _⟩
  have i5 : (L.length : Int) ≤ 64 := by omega
  have hsx : (roC ro0).size = 4 := rfl
  have key : n < 0 ∨ (¬ n < 0 ∧ (L.length : Int) ≤ n) ∨ ∃ j : Nat, n = (j : Int) ∧ j < L.length ∧ onL L j = false := by
    by_cases h1 : n < 0
    · exact .inl h1
    · obtain ⟨j, rfl⟩ : ∃ j : Nat, n = (j : Int) := ⟨n.toNat, by omega⟩
      by_cases h2 : (L.length : Int) ≤ (j : Int)
      · exact .inr (.inl ⟨h1, h2⟩)
      · refine .inr (.inr ⟨j, rfl, by omega, ?_⟩)
        cases q : onL L j with
        | false => rfl
        | true => exact absurd ⟨by omega, by simpa using q⟩ hn
  clear hn h hb1
  rcases key with k1 | ⟨k1, k2⟩ | ⟨j, rfl, hj, ho⟩
  · clear h1
    go_enter Try.func33, Try.ntmps33
    go_wp2_with (first
      | (refine wpList_buildTo (by rfl) 64 #[] (by rfl) _ rfl (roC ro0) (by exact hbt) ?_; simp only [Act.put, List.setIfInBounds_toArray, List.set_cons_zero, List.set_cons_succ])
      | (refine wpList_store_row (by rfl) 64 _ _ (by rfl) (w.heap.size) (roC ro0) (by rfl) (by rfl) 64 (roC ro0) (by exact u1) (ro_size.trans (by rfl)) (by rfl) (ro_all _) ?_; simp only [Act.put, List.setIfInBounds_toArray, List.set_cons_zero, List.set_cons_succ])
      | fail)
    try simp only [Exit.inBlock, Exit.then]
    refine bodyPost_ret (results_row2 Try.results33 _ _ (w.heap.size) 64 (roC ro0) (0, 0) _ rfl HE.out.1 Try.underlying64 rfl (ro_size.trans (by rfl))) rfl ?_
    exact ⟨rfl, HE.out.2⟩
  · clear h1
    go_enter Try.func33, Try.ntmps33
    go_wp2_with (first
      | (refine wpList_buildTo (by rfl) 64 #[] (by rfl) _ rfl (roC ro0) (by exact hbt) ?_; simp only [Act.put, List.setIfInBounds_toArray, List.set_cons_zero, List.set_cons_succ])
      | (refine wpList_store_row (by rfl) 64 _ _ (by rfl) (w.heap.size) (roC ro0) (by rfl) (by rfl) 64 (roC ro0) (by exact u1) (ro_size.trans (by rfl)) (by rfl) (ro_all _) ?_; simp only [Act.put, List.setIfInBounds_toArray, List.set_cons_zero, List.set_cons_succ])
      | fail)
    try simp only [Exit.inBlock, Exit.then]
    refine bodyPost_ret (results_row2 Try.results33 _ _ (w.heap.size) 64 (roC ro0) (0, 0) _ rfl HE.out.1 Try.underlying64 rfl (ro_size.trans (by rfl))) rfl ?_
    exact ⟨rfl, HE.out.2⟩
  · obtain ⟨x, hx⟩ : ∃ x, L[j]? = some x := ⟨_, List.getElem?_eq_getElem hj⟩
    have hon : x.on = false := by unfold onL at ho; rw [hx] at ho; exact ho
    have c0 := h1.at_ hx 0 (.bool x.on) rfl
    rw [Nat.add_zero, hon] at c0
    have i1 : ¬ (j : Int) < 0 := by omega
    have i2 : ¬ (L.length : Int) ≤ (j : Int) := by omega
    have i3 : (j : Int) < (L.length : Int) := by omega
    have i4 : (0 : Int) ≤ (j : Int) := by omega
    clear h1 hx hon ho hj
    go_enter Try.func33, Try.ntmps33
    go_wp2_with (first
      | (refine wpList_buildTo (by rfl) 64 #[] (by rfl) _ rfl (roC ro0) (by exact hbt) ?_; simp only [Act.put, List.setIfInBounds_toArray, List.set_cons_zero, List.set_cons_succ])
      | (refine wpList_store_row (by rfl) 64 _ _ (by rfl) (w.heap.size) (roC ro0) (by rfl) (by rfl) 64 (roC ro0) (by exact u1) (ro_size.trans (by rfl)) (by rfl) (ro_all _) ?_; simp only [Act.put, List.setIfInBounds_toArray, List.set_cons_zero, List.set_cons_succ])
      | fail)
    try simp only [Exit.inBlock, Exit.then]
    refine bodyPost_ret (results_row2 Try.results33 _ _ (w.heap.size) 64 (roC ro0) (0, 0) _ rfl HE.out.1 Try.underlying64 rfl (ro_size.trans (by rfl))) rfl ?_
    exact ⟨rfl, HE.out.2⟩
/-- the least that is not open -/
structure LwR (L : List Ro) (k : Nat) : Prop where
  le : k ≤ 64
  all : ∀ j, j < k → onL L j = true
  at_ : k < 64 → onL L k = false
def lwI (k : Nat) : Int := if k < 64 then (k : Int) else -1
set_option maxRecDepth 100000 in
set_option maxHeartbeats 8000000 in
theorem rlowest_any (hlen : L.length ≤ 64) {k : Nat} (hk : LwR L k) (w : World) (h : IsRo w g L) : Calls Try.prog 35 #[.slice (some ⟨g, 0, none⟩) L.length c] w fun e w' => e = .returned (.int .i64 (lwI k)) ∧ w' = w := by
  have HK : Hid (LwR L k) := hk
  have HL : Hid (IsRo w g L ∧ L.length ≤ 64) := ⟨h, hlen⟩
  have i5 : (L.length : Int) ≤ 64 := by omega
  have HI : Hid (∀ j : Nat, j = k → j < 64 → lwI k = (j : Int)) := fun j hj hl => by subst hj; exact if_pos hl
  have HI2 : Hid (k = 64 → lwI k = -1) := fun q => by subst q; rfl
  generalize lwI k = r at *
  clear hk h hlen
  go_enter Try.func35, Try.ntmps35
  go_wp2_with fail
  go_loopw [3] (fun v wr => Hid (∃ i : Nat, i ≤ k ∧ v = .int .i64 (i : Int) ∧ wr = w)) (fun v _ => 64 - (intOf v).toNat)
  case atStart => exact ⟨0, Nat.zero_le _, rfl, rfl⟩
  case round =>
    obtain ⟨i, hi, rfl, rfl⟩ := Hid.out hrel
    clear hrel
    have hk64 := HK.out.le
    by_cases hik : i < k
    · have i1 : (i : Int) < 64 := by omega
      obtain ⟨x, hx, hon, _⟩ := onL_some (HK.out.all i hik)
      have c0 := HL.out.1.at_ hx 0 (.bool x.on) rfl
      rw [Nat.add_zero, hon] at c0
      have hjl := (List.getElem?_eq_some_iff.1 hx).1
      have i2 : ¬ (L.length : Int) ≤ (i : Int) := by omega
      have i3 : (i : Int) < (L.length : Int) := by omega
      have i4 : (0 : Int) ≤ (i : Int) := by omega
      have HJ : Hid (i < k ∧ k ≤ 64) := ⟨hik, hk64⟩
      clear hx hon hjl hik hi hk64
      go_wp2_with fail
      go_roundw
      case rel => exact ⟨i + 1, HJ.out.1, by first | rfl | go_num | simp, by first | rfl | trivial⟩
      case measure => have := HJ.out; simp [intOf]; omega
    · have e : i = k := by omega
      by_cases hk4 : k < 64
      · have i1 : (i : Int) < 64 := by omega
        have ho := HK.out.at_ hk4
        rw [← e] at ho
        have HR : Hid (r = (i : Int)) := HI.out i e (by omega)
        by_cases hil : i < L.length
        · obtain ⟨x, hx⟩ : ∃ x, L[i]? = some x := ⟨_, List.getElem?_eq_getElem hil⟩
          have hon : x.on = false := by unfold onL at ho; rw [hx] at ho; exact ho
          have c0 := HL.out.1.at_ hx 0 (.bool x.on) rfl
          rw [Nat.add_zero, hon] at c0
          have i2 : ¬ (L.length : Int) ≤ (i : Int) := by omega
          have i3 : (i : Int) < (L.length : Int) := by omega
          have i4 : (0 : Int) ≤ (i : Int) := by omega
          clear hx hon hil ho e hik hi hk64 hk4
          go_wp2_with fail
          go_ret
          exact ⟨by rw [HR.out]; rfl, rfl⟩
        · have i2 : (L.length : Int) ≤ (i : Int) := by omega
          clear hil ho e hik hi hk64 hk4
          go_wp2_with fail
          go_ret
          exact ⟨by rw [HR.out]; rfl, rfl⟩
      · have HR : Hid (r = -1) := HI2.out (by omega)
        have i1 : ¬ (i : Int) < 64 := by omega
        clear e hik hi hk64 hk4
        go_wp2_with fail
        go_ret
        exact ⟨by rw [HR.out]; rfl, rfl⟩
end
end Go.Proofs.Ytldkmogennmldaa

namespace Go.Proofs.Ytldkmogennmldaa
open Go Go.RowKit
set_option linter.unusedSimpArgs false
set_option linter.unusedVariables false
/-- a list with one laid at a place -/
def layL (L : List Ro) (k : Nat) (x : Ro) : List Ro := (L ++ List.replicate (k + 1 - L.length) ro0).set k x
theorem layL_len (L : List Ro) (k : Nat) (x : Ro) : (layL L k x).length = L.length + (k + 1 - L.length) := by simp [layL]
theorem layL_at (L : List Ro) (k : Nat) (x : Ro) (j : Nat) : onL (layL L k x) j = (if j = k then x.on else onL L j) ∧ dL (layL L k x) j = (if j = k then x.d else dL L j) := by
  unfold onL dL layL
  by_cases h : j = k
  · subst h
    rw [if_pos rfl, if_pos rfl, List.getElem?_set_self (by simp; omega)]
    exact ⟨rfl, rfl⟩
  · rw [if_neg h, if_neg h, List.getElem?_set_ne (fun q => h q.symm)]
    by_cases h2 : j < L.length
    · rw [List.getElem?_append_left h2]
      exact ⟨rfl, rfl⟩
    · rw [List.getElem?_append_right (by omega), List.getElem?_eq_none (l := L) (by omega)]
      rw [List.getElem?_replicate]
      by_cases h3 : j - L.length < k + 1 - L.length
      · rw [if_pos h3]; exact ⟨rfl, rfl⟩
      · rw [if_neg h3]; exact ⟨rfl, rfl⟩
theorem roL_set : ∀ (L : List Ro) (k : Nat) (x : Ro), k < L.length → ∀ j, (roL (L.set k x))[j]? = if k * 4 ≤ j ∧ j < k * 4 + 4 then (roC x)[j - k * 4]? else (roL L)[j]?
  | [], k, x, h, j => absurd h (Nat.not_lt_zero _)
  | y :: L, 0, x, h, j => by
    rw [List.set_cons_zero, roL, roL]
    by_cases hj : j < 4
    · rw [if_pos (by omega), List.getElem?_append_left (by rw [Array.length_toList]; exact hj), Array.getElem?_toList]
      simp
    · rw [if_neg (by omega), List.getElem?_append_right (by rw [Array.length_toList]; show 4 ≤ j; omega), List.getElem?_append_right (by rw [Array.length_toList]; show 4 ≤ j; omega)]
      rfl
  | y :: L, k + 1, x, h, j => by
    rw [List.set_cons_succ, roL, roL]
    by_cases hj : j < 4
    · rw [if_neg (by omega), List.getElem?_append_left (by rw [Array.length_toList]; exact hj), List.getElem?_append_left (by rw [Array.length_toList]; exact hj)]
    · rw [List.getElem?_append_right (by rw [Array.length_toList]; show 4 ≤ j; omega), List.getElem?_append_right (by rw [Array.length_toList]; show 4 ≤ j; omega)]
      rw [roL_set L k x (by simpa using h) (j - (roC y).toList.length)]
      have e : (roC y).toList.length = 4 := rfl
      rw [e]
      by_cases h2 : (k + 1) * 4 ≤ j ∧ j < (k + 1) * 4 + 4
      · rw [if_pos h2, if_pos (by omega)]
        congr 1
        omega
      · rw [if_neg h2, if_neg (by omega)]
/-- a row laid over a block of cells -/
theorem blk_lay {w : World} {g t : Nat} {cs : Array Value} (h : Blk w g t cs) (o : Nat) (vs : List Value) (ho : o + vs.length ≤ cs.size) (j : Nat) (u : Value) (hu : (if o ≤ j ∧ j < o + vs.length then vs[j - o]? else cs[j]?) = some u) : (w.setCells g o vs).cell? ⟨g, j, none⟩ = some u := by
  have e : cs = va cs.size (fun i => cs.getD i undef) := va_ext rfl fun i hi => by simp [hi]
  have h2 : Blk w g t (va cs.size (fun i => cs.getD i undef)) := by rw [← e]; exact h
  have h3 := Blk.cells_put vs o w _ h2
  have hj : j < cs.size := by
    split at hu
    · omega
    · exact (Array.getElem?_eq_some_iff.1 hu).1
  rw [h3.cell j, va_at _ hj]
  unfold over
  by_cases c : o ≤ j ∧ j < o + vs.length
  · rw [if_pos c] at hu ⊢
    rw [List.getD_eq_getElem?_getD, hu]
    rfl
  · rw [if_neg c] at hu ⊢
    simp [Array.getD_eq_getD_getElem?, hu]
theorem ro_lay {w : World} {B e n cap g : Nat} {M : List Ro} (h : w.ownsRow B e 4 (.slice (some ⟨g, 0, none⟩) n cap) n (roL M)) (hn : n = M.length) (k : Nat) (hk : k < M.length) (x : Ro) : IsRo (w.setCells g (k * 4) (roC x).toList) g (M.set k x) ∧ w.there g (k * 4) (roC x).size := by
  rcases h.2 with ⟨q, _⟩ | ⟨g', cap', cur, e1, hb, hg, h1, h2, h3, h4⟩
  · cases q
  · injection e1 with e1 e2 e3
    injection e1 with e1
    injection e1 with e1 _ _
    subst e1
    have hB : Blk w g e cur := hg
    have hsz : k * 4 + 4 ≤ cur.size := by rw [h3]; omega
    refine ⟨⟨?_, fun j u hu => ?_⟩, Blk.there hB _ _ hsz⟩
    · rw [size_setCells]; exact hB.lt
    · refine blk_lay hB (k * 4) (roC x).toList hsz j u ?_
      rw [roL_set M k x hk j] at hu
      have e : (roC x).toList.length = 4 := rfl
      rw [e]
      by_cases c : k * 4 ≤ j ∧ j < k * 4 + 4
      · rw [if_pos c] at hu ⊢
        rw [Array.getElem?_toList]
        exact hu
      · rw [if_neg c] at hu ⊢
        rw [← h4, List.getElem?_take] at hu
        split at hu
        · rw [← Array.getElem?_toList]; exact hu
        · cases hu
def slN3 : Value → Nat
  | .slice _ n _ => n
  | _ => 0
section
variable {g c : Nat} {L : List Ro}
set_option maxRecDepth 100000 in
set_option maxHeartbeats 8000000 in
theorem rlay_any (hlen : L.length ≤ 64) (k : Nat) (hk : k < 64) (x : Ro) (w : World) (h : IsRo w g L) : Calls Try.prog 36 #[.slice (some ⟨g, 0, none⟩) L.length c, .int .i64 (k : Int), .agg (roC x)] w fun e w' => ∃ g' c', e = .returned (.slice (some ⟨g', 0, none⟩) (layL L k x).length c') ∧ w.heap.size ≤ g' ∧ IsRo w' g' (layL L k x) ∧ Below w.heap.size w w' := by
  obtain ⟨i0, hi, hz0, hz1, hz2⟩ := fd_info infoRo
  have hbt : Try.prog.built 64 [] = some #[.bool false, .int .i64 0, .int .i64 0, .int .i64 0] := ro_built0
  have hb1 : Below w.heap.size w (w.alloc (.cells (roC x) 64)) := below_new1 _ _
  have hb2 : Below w.heap.size w ((w.alloc (.cells (roC x) 64)).alloc (.cells #[] 64)) := below_new2 _ _ _
  have u1 : Blk ((w.alloc (.cells (roC x) 64)).alloc (.cells #[] 64)) w.heap.size 64 (roC x) := (Blk.new _ _ _).alloc _
  have hown0 : ((w.alloc (.cells (roC x) 64)).alloc (.cells #[] 64)).ownsRow (w.heap.size + 1) 64 4 (.slice (some ⟨w.heap.size + 1, 0, none⟩) 0 0) 0 [] := kown_empty (Blk.new1 _ _ _ _) (Nat.le_refl _)
  have HL : Hid (IsRo ((w.alloc (.cells (roC x) 64)).alloc (.cells #[] 64)) g L ∧ L.length ≤ 64 ∧ k < 64) := ⟨h.below hb2, hlen, hk⟩
  have HO0 : Hid (((w.alloc (.cells (roC x) 64)).alloc (.cells #[] 64)).ownsRow (w.heap.size + 1) 64 4 (.slice (some ⟨w.heap.size + 1, 0, none⟩) 0 0) 0 [] ∧ Blk ((w.alloc (.cells (roC x) 64)).alloc (.cells #[] 64)) w.heap.size 64 (roC x) ∧ Below w.heap.size w ((w.alloc (.cells (roC x) 64)).alloc (.cells #[] 64))) := ⟨hown0, u1, hb2⟩
  have hv0 := hown0.lt
  have k64 : (k : Int) < 64 := by omega
  have l64 : (L.length : Int) ≤ 64 := by omega
  have kn : (0 : Int) ≤ (k : Int) := by omega
  have hsx : (roC x).size = 4 := rfl
  clear hown0 u1 hb1 hb2 h hk
  go_enter Try.func36, Try.ntmps36
  go_wp2_with (first
    | (at_builtin; refine wpList_append_own _ rfl _ _ 29 rfl (w.heap.size + 1) 64 i0 (.agg (roC ro0)) 4 32 Try.underlying29 hi hz0 hz1 hz2 rfl (by decide) _ 0 [] rfl HO0.out.1 ⟨g, 0, none⟩ L.length c (roL L) rfl (roL_len L) (fun j u hu => by rw [Addr.add_mid, Nat.zero_add]; exact HL.out.1.2 j u hu) (roL_one L) (by unfold maxLen; omega) (by omega) (by simp) ?_)
    | fail)
  intro v' w3 hown3 hgr _
  have hb3 : Below w.heap.size w w3 := HO0.out.2.2.grown hgr (by simp; omega) (fun q hq => by have := (hv0 q hq).1; omega)
  have u3 : Blk w3 w.heap.size 64 (roC x) := by
    obtain ⟨_, _, _, _, g5⟩ := hgr
    exact (g5 w.heap.size HO0.out.2.1.lt (fun q => by have := (hv0 _ q.symm).1; omega)).trans HO0.out.2.1
  obtain ⟨a3, c3, rfl⟩ := kown_slice hown3
  have HS : Hid (w3.ownsRow (w.heap.size + 1) 64 4 (.slice a3 L.length c3) L.length (roL (L ++ List.replicate (L.length - L.length) ro0)) ∧ Blk w3 w.heap.size 64 (roC x) ∧ Below w.heap.size w w3) := ⟨by rw [Nat.sub_self]; simpa using hown3, u3, hb3⟩
  clear hown3 hgr u3 hb3 hv0 HO0
  go_wp2_with fail
  go_loopw [7] (fun v wr => Hid (∃ (m cap : Nat) (a : Option Addr), L.length ≤ m ∧ (m ≤ L.length ∨ m ≤ k + 1) ∧ v = .slice a m cap ∧ wr.ownsRow (w.heap.size + 1) 64 4 (.slice a m cap) m (roL (L ++ List.replicate (m - L.length) ro0)) ∧ Blk wr w.heap.size 64 (roC x) ∧ Below w.heap.size w wr)) (fun v _ => 70 - slN3 v)
  case atStart => exact ⟨L.length, c3, a3, Nat.le_refl _, .inl (Nat.le_refl _), rfl, HS.out.1, HS.out.2.1, HS.out.2.2⟩
  case round =>
    obtain ⟨m, cap, a, hm1, hm2, rfl, hown, hbx, hb⟩ := Hid.out hrel
    clear hrel
    have hm65 : m ≤ 65 := by have := HL.out; omega
    by_cases hmk : m ≤ k
    · have i1 : (m : Int) ≤ (k : Int) := by omega
      have HM : Hid (L.length ≤ m ∧ m ≤ k ∧ k < 64) := ⟨hm1, hmk, HL.out.2.2⟩
      have HW : Hid (wr.ownsRow (w.heap.size + 1) 64 4 (.slice a m cap) m (roL (L ++ List.replicate (m - L.length) ro0)) ∧ Blk wr w.heap.size 64 (roC x) ∧ Below w.heap.size w wr) := ⟨hown, hbx, hb⟩
      have hv := hown.lt
      have hsz := hb.size
      have hbl := hbx.lt
      have HC2 : Hid (∀ j u, (roL [ro0])[j]? = some u → (wr.alloc (.cells #[.bool false, .int .i64 0, .int .i64 0, .int .i64 0] 64)).cell? ((⟨wr.heap.size, 0, none⟩ : Addr).add j) = some u) := fun j u hu => by
        rw [Addr.add_mid, Nat.zero_add, (Blk.new wr 64 #[.bool false, .int .i64 0, .int .i64 0, .int .i64 0]).cell j, ← Array.getElem?_toList]
        exact hu
      clear hown hbx hb hm1 hm2 hmk HS
      go_wp2_with (first
        | (refine wpList_buildTo (by rfl) 64 #[] (by rfl) _ rfl #[.bool false, .int .i64 0, .int .i64 0, .int .i64 0] (by exact hbt) ?_; simp only [Act.put, List.setIfInBounds_toArray, List.set_cons_zero, List.set_cons_succ])
        | (at_builtin; refine wpList_append_own _ rfl _ _ 29 rfl (w.heap.size + 1) 64 i0 (.agg (roC ro0)) 4 32 Try.underlying29 hi hz0 hz1 hz2 rfl (by decide) _ m _ rfl (HW.out.1.alloc _) ⟨wr.heap.size, 0, none⟩ 1 1 (roL [ro0]) rfl rfl HC2.out (roL_one [ro0]) (by unfold maxLen; omega) (by omega) (by simp; omega) ?_)
        | fail)
      intro v' w7 hown' hgr _
      have hb7 : Below w.heap.size w w7 := (HW.out.2.2.alloc (by omega) _).grown hgr (by simp; omega) (fun q hq => by have := (hv q hq).1; omega)
      have u7 : Blk w7 w.heap.size 64 (roC x) := by
        obtain ⟨_, _, _, _, g5⟩ := hgr
        exact (g5 w.heap.size (by simp; omega) (fun q => by have := (hv _ q.symm).1; omega)).trans (HW.out.2.1.alloc _)
      obtain ⟨a7, c7, rfl⟩ := kown_slice hown'
      have HN : Hid (w7.ownsRow (w.heap.size + 1) 64 4 (.slice a7 (m + 1) c7) (m + 1) (roL (L ++ List.replicate (m + 1 - L.length) ro0)) ∧ Blk w7 w.heap.size 64 (roC x) ∧ Below w.heap.size w w7) := by
        refine ⟨?_, u7, hb7⟩
        rw [show m + 1 - L.length = (m - L.length) + 1 by have := HM.out; omega, List.replicate_succ', ← List.append_assoc, roL_app (L ++ List.replicate (m - L.length) ro0) [ro0]]
        exact hown'
      clear hown' hgr u7 hb7 hv
      go_wp2_with fail
      go_roundw
      case rel => exact ⟨m + 1, c7, a7, by have := HM.out; omega, .inr (by have := HM.out; omega), by first | rfl | simp, HN.out.1, HN.out.2.1, HN.out.2.2⟩
      case measure => simp [slN3]; omega
    · have i1 : ¬ (m : Int) ≤ (k : Int) := by omega
      have i2 : (k : Int) < (m : Int) := by omega
      have em : m - L.length = k + 1 - L.length := by omega
      obtain ⟨g', cap', e1, hg1, hg2⟩ := kown_form hown (by omega)
      injection e1 with e1 _ e3
      subst e1 e3
      rw [em] at hown
      have hML : m = (L ++ List.replicate (k + 1 - L.length) ro0).length := by simp; omega
      obtain ⟨hr, hth⟩ := ro_lay hown hML k (by omega) x
      have HE : Hid (IsRo (wr.setCells g' (k * 4) (roC x).toList) g' (layL L k x) ∧ Below w.heap.size w (wr.setCells g' (k * 4) (roC x).toList) ∧ w.heap.size ≤ g' ∧ m = (layL L k x).length) := ⟨hr, below_setCells (by omega) _ _ _ hb, by omega, by rw [layL_len, ← em]; omega⟩
      clear hr hown hb hm1 hm2 hmk HS hML em hg1 hg2
      go_wp2_with (first
        | (refine wpList_load_row (by rfl) 64 _ (by rfl) (w.heap.size) (by rfl) 64 (roC x) (0, 0) _ (by exact hbx) Try.underlying64 (by rfl) (ro_size.trans (by rfl)) ?_; simp only [Act.put, List.setIfInBounds_toArray, List.set_cons_zero, List.set_cons_succ])
        | (refine wpList_store_mid (by rfl) 64 _ _ (by rfl) g' (k * 4) (roC x) (by rfl) (by rfl) (by exact hth) (ro_size.trans (by rfl)) (ro_all _) ?_; simp only [Act.put, List.setIfInBounds_toArray, List.set_cons_zero, List.set_cons_succ])
        | fail)
      go_ret
      exact ⟨g', ⟨cap, by rw [← HE.out.2.2.2]; rfl⟩, HE.out.2.2.1, HE.out.1, HE.out.2.1⟩
end
end Go.Proofs.Ytldkmogennmldaa
