/- Stretches of digits, digits without the zeros ahead: the document's. -/
import Derived.Test.YtgpghdhkbliodaaDoorHNaCmp
import Derived.Test.YtgpghdhkbliodaaDoorHBytes
import Derived.Handy
import Derived.BigQuiet
import Derived.Deep.QuietTactic

namespace Go.Proofs.YtgpghdhkbliodaaDoor
set_option maxRecDepth 20000
open Go Go.RowKit Go.Nam
set_option linter.unusedVariables false
set_option linter.unusedSimpArgs false
abbrev ten : ByteArray := ⟨#[48, 49, 50, 51, 52, 53, 54, 55, 56, 57]⟩
theorem ten_dgt (c : UInt8) : ten.data.toList.contains c = dgt c := by
  have h : ∀ k : Nat, k < 256 → (ten.data.toList.contains (UInt8.ofNat k)) = dgt (UInt8.ofNat k) := by decide
  have := h c.toNat c.toNat_lt
  rwa [UInt8.ofNat_toNat] at this
theorem drop_take_len (l : List UInt8) : (l.dropWhile dgt).length = l.length - stN l := by
  have := congrArg List.length (List.takeWhile_append_dropWhile (p := dgt) (l := l))
  rw [List.length_append] at this
  unfold stN
  omega
theorem trimTen_any (s : ByteArray) (w : World) :
    Calls Tryd.prog 53 #[.string s, .string ten] w fun e w' => e = .returned (.string ⟨(s.data.toList.dropWhile dgt).toArray⟩) ∧ Below w.heap.size w w' := by
  have h : Calls Tryd.prog 53 #[.string s, .string ten] w fun e w' => e = .returned (.string ⟨(Lib.trimLeftS s.data.toList ten.data.toList).toArray⟩) ∧ Below w.heap.size w w' :=
    Any.strings_TrimLeft_laid Tryd.trimLeftA (by kernel_rfl) s ten w (by decide) (fun j b hb => by
      have h2 : b ∈ ten.data.toList := List.mem_of_getElem? hb
      have h3 : ∀ x ∈ ten.data.toList, x.toNat < 128 := by decide
      exact h3 b h2)
  have e : Lib.trimLeftS s.data.toList ten.data.toList = s.data.toList.dropWhile dgt := by
    unfold Lib.trimLeftS
    congr 1
    funext c
    exact ten_dgt c
  rw [e] at h
  exact h
set_option maxHeartbeats 4000000 in
theorem stretch_any (s : ByteArray) (hs : s.size ≤ 4611686018427387904) (w : World) :
    Calls Tryd.prog 33 #[.string s] w fun e w' => e = .returned (.int .i64 (stN s.data.toList : Int)) ∧ Below w.heap.size w w' := by
  have HT : Hid (∀ w : World, Calls Tryd.prog 53 #[.string s, .string ⟨#[48, 49, 50, 51, 52, 53, 54, 55, 56, 57]⟩] w fun e w' => e = .returned (.string ⟨(s.data.toList.dropWhile dgt).toArray⟩) ∧ Below w.heap.size w w') := trimTen_any s
  have hz : (⟨(s.data.toList.dropWhile dgt).toArray⟩ : ByteArray).size = s.size - stN s.data.toList := by
    rw [Lib.size_mk, drop_take_len, ← Lib.size_eq]
  have hle : stN s.data.toList ≤ s.size := by rw [Lib.size_eq]; exact stN_le _
  generalize stN s.data.toList = k at hz hle ⊢
  generalize (⟨(s.data.toList.dropWhile dgt).toArray⟩ : ByteArray) = t at HT hz
  have HK : Hid ((s.size : Int) - (t.size : Int) = (k : Int)) := by show _ = _; omega
  have hw : IntKind.i64.wrap ((s.size : Int) - (t.size : Int)) = (k : Int) := by
    rw [HK.out]; exact wrap_small _ (by omega) (by omega)
  have hw2 : wrap64 ((s.size : Int) - (t.size : Int)) = (k : Int) := by rw [HK.out]; unfold wrap64; omega
  clear HK hz hle
  go_enter Tryd.func33, Tryd.ntmps33
  go_wp2_with fail
  refine (HT.out _).mono ?_
  intro e w2 hw3
  obtain ⟨he2, hb2⟩ := hw3
  subst he2
  have HB : Hid (Below w.heap.size w w2) := hb2
  clear hb2
  go_wp2_with fail
  go_ret
  refine ⟨?_, HB.out⟩
  first | rfl | (rw [← hw2]; rfl)
def orC (x y : Int) : Int := if x ≠ 0 then x else y
set_option maxHeartbeats 4000000 in
theorem or_two (x y : Int) (g : Nat) (w : World) (h0 : w.cell? ⟨g, 0, none⟩ = some (.int .i64 x)) (h1 : w.cell? ⟨g, 1, none⟩ = some (.int .i64 y)) :
    Calls Tryd.prog 36 #[.slice (some ⟨g, 0, none⟩) 2 2] w fun e w' => e = .returned (.int .i64 (orC x y)) ∧ w' = w := by
  go_enter Tryd.func36, Tryd.ntmps36
  go_wp2_with fail
  go_loop [8] (fun v => Hid (∃ i : Nat, v = .int .i64 (i : Int) ∧ (i = 0 ∨ (i = 1 ∧ x = 0) ∨ (i = 2 ∧ x = 0 ∧ y = 0)))) (fun v => 2 - (intOf v).toNat)
  case atStart => exact ⟨0, rfl, Or.inl rfl⟩
  case round =>
    obtain ⟨i, rfl, hi⟩ := Hid.out hrel
    clear hrel
    rcases hi with rfl | ⟨rfl, hx⟩ | ⟨rfl, hx, hy⟩
    · by_cases hx : x = 0
      · have hb : (x != 0) = false := by rw [hx]; rfl
        have HX : Hid (x = 0) := hx
        clear hx
        go_wp2_with fail
        go_round
        case rel => exact ⟨1, by first | rfl | go_num | simp, Or.inr (Or.inl ⟨rfl, HX.out⟩)⟩
        case measure => simp [intOf]
      · have hb : (x != 0) = true := bne_iff_ne.2 hx
        have HX : Hid (orC x y = x) := if_pos hx
        clear hx
        go_wp2_with fail
        go_ret
        exact ⟨by rw [HX.out]; rfl, rfl⟩
    · have HX : Hid (x = 0) := hx
      by_cases hy : y = 0
      · have hb : (y != 0) = false := by rw [hy]; rfl
        have HY : Hid (y = 0) := hy
        clear hx hy
        go_wp2_with fail
        go_round
        case rel => exact ⟨2, by first | rfl | go_num | simp, Or.inr (Or.inr ⟨rfl, HX.out, HY.out⟩)⟩
        case measure => simp [intOf]
      · have hb : (y != 0) = true := bne_iff_ne.2 hy
        have HO : Hid (orC x y = y) := if_neg (by simp [hx])
        clear hx hy
        go_wp2_with fail
        go_ret
        exact ⟨by rw [HO.out]; rfl, rfl⟩
    · have HO : Hid (orC x y = 0) := by show _ = _; unfold orC; rw [if_neg (by simp [hx]), hy]
      clear hx hy
      go_wp2_with fail
      go_ret
      exact ⟨by rw [HO.out]; rfl, rfl⟩
theorem compareInt_len (a b : Nat) (c : Int) : orC (Lib.compareInt (a : Int) (b : Int)) c = if a < b then -1 else if b < a then 1 else c := by
  unfold orC Lib.compareInt
  by_cases h1 : a < b
  · rw [if_pos (show (a : Int) < (b : Int) by omega), if_pos h1]; rfl
  · rw [if_neg (show ¬ (a : Int) < (b : Int) by omega), if_neg h1]
    by_cases h2 : b < a
    · rw [if_pos (show (a : Int) > (b : Int) by omega), if_pos h2]; rfl
    · rw [if_neg (show ¬ (a : Int) > (b : Int) by omega), if_neg h2]; rfl
set_option maxHeartbeats 4000000 in
theorem numbers_any (a b : ByteArray) (w : World) :
    Calls Tryd.prog 34 #[.string a, .string b] w fun e w' => e = .returned (.int .i64 (numC a.data.toList b.data.toList)) ∧ Below w.heap.size w w' := by
  have HA : Hid (∀ w : World, Calls Tryd.prog 53 #[.string a, .string ⟨#[48]⟩] w fun e w' => e = .returned (.string ⟨(bareL a.data.toList).toArray⟩) ∧ w' = w) := trimLeft_one a 48 (by decide)
  have HB : Hid (∀ w : World, Calls Tryd.prog 53 #[.string b, .string ⟨#[48]⟩] w fun e w' => e = .returned (.string ⟨(bareL b.data.toList).toArray⟩) ∧ w' = w) := trimLeft_one b 48 (by decide)
  have hla : (⟨(bareL a.data.toList).toArray⟩ : ByteArray).size = (bareL a.data.toList).length := Lib.size_mk _
  have hlb : (⟨(bareL b.data.toList).toArray⟩ : ByteArray).size = (bareL b.data.toList).length := Lib.size_mk _
  have HC : Hid (∀ w : World, Calls Tryd.prog 35 #[.string ⟨(bareL a.data.toList).toArray⟩, .string ⟨(bareL b.data.toList).toArray⟩] w fun e w' => e = .returned (.int .i64 (Lib.compareBytes (bareL a.data.toList) (bareL b.data.toList))) ∧ w' = w) := fun w => by
    have := compare_any ⟨(bareL a.data.toList).toArray⟩ ⟨(bareL b.data.toList).toArray⟩ w
    simpa using this
  have HN : Hid (orC (Lib.compareInt ((⟨(bareL a.data.toList).toArray⟩ : ByteArray).size : Int) ((⟨(bareL b.data.toList).toArray⟩ : ByteArray).size : Int)) (Lib.compareBytes (bareL a.data.toList) (bareL b.data.toList)) = numC a.data.toList b.data.toList) := by
    show _ = _
    rw [hla, hlb, compareInt_len]; rfl
  clear hla hlb
  generalize (⟨(bareL a.data.toList).toArray⟩ : ByteArray) = x at *
  generalize (⟨(bareL b.data.toList).toArray⟩ : ByteArray) = y at *
  generalize Lib.compareBytes (bareL a.data.toList) (bareL b.data.toList) = c at *
  generalize numC a.data.toList b.data.toList = r at *
  have HI : Hid (∀ w : World, Calls Tryd.prog 54 #[.int .i64 (x.size : Int), .int .i64 (y.size : Int)] w fun e w' => e = .returned (.int .i64 (Lib.compareInt (x.size : Int) (y.size : Int))) ∧ w' = w) := compareInt_any _ _
  generalize Lib.compareInt (x.size : Int) (y.size : Int) = d at *
  go_enter Tryd.func34, Tryd.ntmps34
  go_wp2_with fail
  refine (HA.out _).mono ?_
  rintro e w2 ⟨rfl, rfl⟩
  go_wp2_with fail
  refine (HB.out _).mono ?_
  rintro e w3 ⟨rfl, rfl⟩
  go_wp2_with fail
  refine (HI.out _).mono ?_
  rintro e w4 ⟨rfl, rfl⟩
  go_wp2_with fail
  refine (HC.out _).mono ?_
  rintro e w5 ⟨rfl, rfl⟩
  have hb : Below w5.heap.size w5 (w5.alloc (.cells #[.int .i64 d, .int .i64 c] 3)) := below_new1 _ _
  have HBL : Hid (Below w5.heap.size w5 (w5.alloc (.cells #[.int .i64 d, .int .i64 c] 3))) := hb
  have HO : Hid (Calls Tryd.prog 36 #[.slice (some ⟨w5.heap.size, 0, none⟩) 2 2] (w5.alloc (.cells #[.int .i64 d, .int .i64 c] 3)) fun e w' => e = .returned (.int .i64 (orC d c)) ∧ w' = w5.alloc (.cells #[.int .i64 d, .int .i64 c] 3)) :=
    or_two d c w5.heap.size _ ((Blk.new w5 3 #[.int .i64 d, .int .i64 c]).cell 0) ((Blk.new w5 3 #[.int .i64 d, .int .i64 c]).cell 1)
  clear hb
  go_wp2_with fail
  refine HO.out.mono ?_
  rintro e w6 ⟨rfl, rfl⟩
  go_wp2_with fail
  go_ret
  exact ⟨by rw [← HN.out]; rfl, HBL.out⟩
end Go.Proofs.YtgpghdhkbliodaaDoor

namespace Go.Proofs.YtgpghdhkbliodaaDoor
set_option maxRecDepth 20000
open Go Go.RowKit Go.Nam
set_option linter.unusedVariables false
set_option linter.unusedSimpArgs false
abbrev lx (x y : List UInt8) : Int := lexN (encN x) (encN y)
theorem lx_step (a b : UInt8) (x y : List UInt8) : lx (a :: x) (b :: y) =
    if stN (a :: x) = 0 ∨ stN (b :: y) = 0 then (if byteC a b ≠ 0 then byteC a b else lx x y)
    else (if numC ((a :: x).take (stN (a :: x))) ((b :: y).take (stN (b :: y))) ≠ 0 then numC ((a :: x).take (stN (a :: x))) ((b :: y).take (stN (b :: y)))
      else lx ((a :: x).drop (stN (a :: x))) ((b :: y).drop (stN (b :: y)))) := by
  have h1 := digF_enc (x.length + y.length + 1) (a :: x) (b :: y) (by simp) (by simp)
  have h2 := digF_enc (x.length + y.length) x y (by omega) (by omega)
  show lexN _ _ = _
  rw [← h1]
  simp only [digF]
  by_cases hz : stN (a :: x) = 0 ∨ stN (b :: y) = 0
  · rw [if_pos hz, if_pos hz, h2]
  · rw [if_neg hz, if_neg hz, digF_enc (x.length + y.length) _ _ (by rw [List.length_drop, List.length_cons]; omega) (by rw [List.length_drop, List.length_cons]; omega)]
theorem lx_nil_left (y : List UInt8) : lx [] y = Lib.compareBytes [] y := by
  cases y with
  | nil => rfl
  | cons b y =>
    have h := digF_enc (y.length + 1) [] (b :: y) (by simp) (by simp)
    show lexN _ _ = _
    rw [← h]; rfl
theorem lx_nil_right (x : List UInt8) : lx x [] = Lib.compareBytes x [] := by
  cases x with
  | nil => rfl
  | cons b y =>
    have h := digF_enc (y.length + 1) (b :: y) [] (by simp) (by simp)
    show lexN _ _ = _
    rw [← h]; rfl
theorem byte_cmp (a b : UInt8) : Lib.compareBytes [a] [b] = byteC a b := rfl

def strLen : Value → Nat | .string s => s.size | _ => 0
def rest (s : ByteArray) (k : Nat) : ByteArray := ⟨(s.data.toList.drop k).toArray⟩
theorem rest_list (s : ByteArray) (k : Nat) : (rest s k).data.toList = s.data.toList.drop k := by simp [rest]
theorem rest_size (s : ByteArray) (k : Nat) : (rest s k).size = s.size - k := by rw [Lib.size_eq, rest_list, List.length_drop, ← Lib.size_eq]
theorem rest_rest (s : ByteArray) (k m : Nat) : (rest s k).extract m (s.size - k) = rest s (k + m) := by
  unfold rest
  rw [Lib.extract_mk, List.drop_drop, List.take_of_length_le (by simp [← Lib.size_eq]; omega)]
theorem rest_take (s : ByteArray) (k m : Nat) : (rest s k).extract 0 m = ⟨((s.data.toList.drop k).take m).toArray⟩ := by
  unfold rest
  rw [Lib.extract_mk, List.drop_zero, Nat.sub_zero]
theorem rest_empty (s : ByteArray) (k : Nat) (h : s.size ≤ k) : rest s k = ⟨#[]⟩ := by
  unfold rest
  rw [List.drop_eq_nil_of_le (by rw [← Lib.size_eq]; exact h)]
theorem rest_zero (s : ByteArray) : rest s 0 = s := by
  unfold rest
  rw [List.drop_zero]
theorem ne_empty {t : ByteArray} (h : 0 < t.size) : t.toList.isEmpty = false := by
  rw [Lib.toList_data]
  cases hl : t.data.toList with
  | nil => rw [Lib.size_eq, hl] at h; simp at h
  | cons => rfl
section
variable (a b : ByteArray)
set_option maxHeartbeats 4000000 in
theorem digits_any (ha : a.size ≤ 4611686018427387904) (hb : b.size ≤ 4611686018427387904) (w : World) :
    Calls Tryd.prog 21 #[.string a, .string b] w fun e w' => e = .returned (.int .i64 (digC a.data.toList b.data.toList)) ∧ Below w.heap.size w w' := by
  have HAL : Hid (a.size = a.data.toList.length) := Lib.size_eq a
  have HBL : Hid (b.size = b.data.toList.length) := Lib.size_eq b
  generalize hc : digC a.data.toList b.data.toList = c
  have HC : Hid (digC a.data.toList b.data.toList = c) := hc
  clear hc
  go_enter Tryd.func21, Tryd.ntmps21
  go_wp2_with fail
  go_loopw [5, 6] (fun v5 v6 wr => Hid (∃ i k : Nat, i ≤ a.size ∧ k ≤ b.size ∧ v5 = .string (rest a i) ∧ v6 = .string (rest b k) ∧ lx (a.data.toList.drop i) (b.data.toList.drop k) = lx a.data.toList b.data.toList ∧ Below w.heap.size w wr)) (fun v5 _ _ => strLen v5)
  case atStart => exact ⟨0, 0, by omega, by omega, by rw [rest_zero], by rw [rest_zero], by simp, Below.refl _ _⟩
  case round =>
    obtain ⟨i, k, hia, hkb, rfl, rfl, hlx, hbel⟩ := Hid.out hrel
    have HL : Hid (lx (a.data.toList.drop i) (b.data.toList.drop k) = lx a.data.toList b.data.toList) := hlx
    have HB : Hid (Below w.heap.size w wr) := hbel
    clear hrel hlx hbel
    by_cases h1 : i < a.size
    · by_cases h2 : k < b.size
      · have hx0 := List.getElem?_eq_getElem (l := a.data.toList) (i := i) (by rw [← HAL.out]; exact h1)
        have hy0 := List.getElem?_eq_getElem (l := b.data.toList) (i := k) (by rw [← HBL.out]; exact h2)
        generalize a.data.toList[i]'(by rw [← HAL.out]; exact h1) = x0 at hx0
        generalize b.data.toList[k]'(by rw [← HBL.out]; exact h2) = y0 at hy0
        have ea := dropAt hx0
        have eb := dropAt hy0
        obtain ⟨m, hm⟩ : ∃ m, m = stN (a.data.toList.drop i) := ⟨_, rfl⟩
        obtain ⟨n, hn⟩ : ∃ n, n = stN (b.data.toList.drop k) := ⟨_, rfl⟩
        have hml : m ≤ a.size - i := by rw [hm]; have := stN_le (a.data.toList.drop i); rw [List.length_drop, ← HAL.out] at this; exact this
        have hnl : n ≤ b.size - k := by rw [hn]; have := stN_le (b.data.toList.drop k); rw [List.length_drop, ← HBL.out] at this; exact this
        have HS1 : Hid (∀ w : World, Calls Tryd.prog 33 #[.string (rest a i)] w fun e w' => e = .returned (.int .i64 (m : Int)) ∧ Below w.heap.size w w') := fun w => by
          have := stretch_any (rest a i) (by rw [rest_size]; omega) w
          rw [rest_list, ← hm] at this
          exact this
        have HS2 : Hid (∀ w : World, Calls Tryd.prog 33 #[.string (rest b k)] w fun e w' => e = .returned (.int .i64 (n : Int)) ∧ Below w.heap.size w w') := fun w => by
          have := stretch_any (rest b k) (by rw [rest_size]; omega) w
          rw [rest_list, ← hn] at this
          exact this
        obtain ⟨nc, hnc⟩ : ∃ nc, nc = numC ((a.data.toList.drop i).take m) ((b.data.toList.drop k).take n) := ⟨_, rfl⟩
        have HNU : Hid (∀ w : World, Calls Tryd.prog 34 #[.string ((rest a i).extract 0 m), .string ((rest b k).extract 0 n)] w fun e w' => e = .returned (.int .i64 nc) ∧ Below w.heap.size w w') := fun w => by
          have := numbers_any ((rest a i).extract 0 m) ((rest b k).extract 0 n) w
          rw [rest_take, rest_take] at this
          rw [rest_take, rest_take, hnc]
          exact this
        have HCM : Hid (∀ w : World, Calls Tryd.prog 35 #[.string ((rest a i).extract 0 1), .string ((rest b k).extract 0 1)] w fun e w' => e = .returned (.int .i64 (byteC x0 y0)) ∧ w' = w) := fun w => by
          have := compare_any ((rest a i).extract 0 1) ((rest b k).extract 0 1) w
          rw [rest_take, rest_take] at this
          rw [rest_take, rest_take]
          simp only [ea, eb] at this
          rw [ea, eb, ← byte_cmp]
          exact this
        have hst := lx_step x0 y0 (a.data.toList.drop (i + 1)) (b.data.toList.drop (k + 1))
        rw [← ea, ← eb, ← hm, ← hn, ← hnc] at hst
        have HST : Hid (_ = _) := hst
        have HE1 : Hid (∀ q, (rest a i).extract q (a.size - i) = rest a (i + q)) := fun q => rest_rest a i q
        have HE2 : Hid (∀ q, (rest b k).extract q (b.size - k) = rest b (k + q)) := fun q => rest_rest b k q
        have hzx : (rest a i).size = a.size - i := rest_size a i
        have hzy : (rest b k).size = b.size - k := rest_size b k
        have hex : (rest a i).toList.isEmpty = false := ne_empty (by rw [hzx]; omega)
        have hey : (rest b k).toList.isEmpty = false := ne_empty (by rw [hzy]; omega)
        have hwx : Hid ((rest a i).size = a.size - i ∧ (rest b k).size = b.size - k) := ⟨hzx, hzy⟩
        clear hst hm hn hnc ea eb hx0 hy0
        have p1 : (m : Int) ≤ ((rest a i).size : Int) := by omega
        have p2 : (n : Int) ≤ ((rest b k).size : Int) := by omega
        have q1 : (1 : Int) ≤ ((rest a i).size : Int) := by omega
        have q2 : (1 : Int) ≤ ((rest b k).size : Int) := by omega
        generalize hX : rest a i = X at *
        generalize hY : rest b k = Y at *
        have HX : Hid (strLen (.string X) = a.size - i) := hzx
        clear hX hY hzx hzy
        go_wp2_with fail
        refine (HS1.out _).mono ?_
        intro e w2 hw2
        obtain ⟨he2, hb2⟩ := hw2
        subst he2
        have HB2 : Hid (Below w.heap.size w w2) := HB.out.trans (hb2.mono HB.out.size)
        clear hb2
        go_wp2_with fail
        refine (HS2.out _).mono ?_
        intro e w3 hw3
        obtain ⟨he3, hb3⟩ := hw3
        subst he3
        have HB3 : Hid (Below w.heap.size w w3) := HB2.out.trans (hb3.mono HB2.out.size)
        clear hb3
        go_wp2_with fail
        obtain ⟨X1, hX1⟩ : ∃ X1, X.extract 0 m = X1 := ⟨_, rfl⟩
        rw [hX1] at HNU
        refine wp_region_partsS (fun _ => True) [([0, 1, 3, 4], 2, true), ([], 5, false), ([], 6, false)] [7] [] (by kernel_rfl) (by kernel_rfl) trivial (partsI_yield ?_)
        simp only [List.cons_append, List.nil_append, List.append_nil, List.filterMap_cons, List.filterMap_nil, List.getElem?_toArray, List.getElem?_cons_zero, List.getElem?_cons_succ]
        go_wp2_with fail
        refine ⟨rfl, _, .string X1, rfl, Or.inl ⟨by rfl, fun W hW => by go_simp⟩, partsI_force ?_⟩
        simp only [Act.put, List.setIfInBounds_toArray, List.set_cons_zero, List.set_cons_succ]
        simp only [List.cons_append, List.nil_append, List.append_nil, List.filterMap_cons, List.filterMap_nil, List.getElem?_toArray, List.getElem?_cons_zero, List.getElem?_cons_succ]
        go_wp2_with fail
        refine ⟨rfl, trivial, partsI_force ?_⟩
        simp only [List.cons_append, List.nil_append, List.append_nil, List.filterMap_cons, List.filterMap_nil, List.getElem?_toArray, List.getElem?_cons_zero, List.getElem?_cons_succ]
        go_wp2_with fail
        refine (HNU.out _).mono ?_
        intro e w4 hw4
        obtain ⟨he4, hb4⟩ := hw4
        subst he4
        have HB4 : Hid (Below w.heap.size w w4) := HB3.out.drew.trans (hb4.mono HB3.out.size)
        clear hb4
        go_wp2_with fail
        refine ⟨rfl, trivial, partsI_last ?_⟩
        simp only [List.cons_append, List.nil_append, List.append_nil, List.filterMap_cons, List.filterMap_nil, List.getElem?_toArray, List.getElem?_cons_zero, List.getElem?_cons_succ]
        go_wp2_with fail
        refine ⟨rfl, ?_⟩
        by_cases m0 : m = 0
        · have bm : ((m : Int) == 0) = true := by rw [m0]; rfl
          go_wp2_with fail
          go_quiet (first | (go_at_call 35; refine Calls.quiet_of_same (HCM.out _)))
          have HB5 : Hid (Below w.heap.size w (w4.drewN nq)) := bdrewN HB4.out _
          generalize w4.drewN nq = w5 at HB5 ⊢
          by_cases hv : byteC x0 y0 = 0
          · have hv2 : (byteC x0 y0 != 0) = false := by rw [hv]; rfl
            have HM : Hid (lx (a.data.toList.drop (i + 1)) (b.data.toList.drop (k + 1)) = lx a.data.toList b.data.toList) := by
              show _ = _
              have h5 := HST.out
              rw [if_pos (Or.inl m0)] at h5
              rw [if_neg (by simp [hv])] at h5
              skip
              rw [← HL.out, h5]
            have e1 : X.extract 1 (a.size - i) = rest a (i + 1) := HE1.out 1
            have e2 : Y.extract 1 (b.size - k) = rest b (k + 1) := HE2.out 1
            have HR : Hid (strLen (.string (rest a (i + 1))) = a.size - (i + 1)) := rest_size _ _
            clear hv HST HE1 HE2
            have z1 : X.size = a.size - i := hwx.out.1
            have z2 : Y.size = b.size - k := hwx.out.2
            rw [← z1] at e1
            rw [← z2] at e2
            clear z1 z2
            obtain ⟨X3, HX3⟩ : ∃ X3, Hid (rest a (i + 1) = X3) := ⟨_, rfl⟩
            obtain ⟨Y3, HY3⟩ : ∃ Y3, Hid (rest b (k + 1) = Y3) := ⟨_, rfl⟩
            rw [HX3.out] at e1 HR
            rw [HY3.out] at e2
            go_wp2_with fail
            go_quiet (fail)
            go_wp2_with fail
            go_roundw
            case rel => exact ⟨i + 1, k + 1, by omega, by omega, by rw [HX3.out], by rw [HY3.out], HM.out, bdrewN HB5.out _⟩
            case measure => rw [HR.out, HX.out]; omega
          · have hv2 : (byteC x0 y0 != 0) = true := bne_iff_ne.2 hv
            obtain rfl : byteC x0 y0 = c := by
              have h5 := HST.out
              rw [if_pos (Or.inl m0)] at h5
              rw [if_pos hv, HL.out] at h5
              have h6 := HC.out
              unfold digC at h6
              rw [if_pos (show lexN (encN a.data.toList) (encN b.data.toList) ≠ 0 from by rw [show lexN (encN a.data.toList) (encN b.data.toList) = _ from h5]; exact hv)] at h6
              exact h5.symm.trans h6
            clear hv HST HE1 HE2
            go_wp2_with fail
            go_ret
            exact ⟨rfl, HB5.out⟩
        · have bm : ((m : Int) == 0) = false := beq_eq_false_iff_ne.2 (by omega)
          by_cases n0 : n = 0
          · have bn : ((n : Int) == 0) = true := by rw [n0]; rfl
            go_wp2_with fail
            go_quiet (first | (go_at_call 35; refine Calls.quiet_of_same (HCM.out _)))
            have HB5 : Hid (Below w.heap.size w (w4.drewN nq)) := bdrewN HB4.out _
            generalize w4.drewN nq = w5 at HB5 ⊢
            by_cases hv : byteC x0 y0 = 0
            · have hv2 : (byteC x0 y0 != 0) = false := by rw [hv]; rfl
              have HM : Hid (lx (a.data.toList.drop (i + 1)) (b.data.toList.drop (k + 1)) = lx a.data.toList b.data.toList) := by
                show _ = _
                have h5 := HST.out
                rw [if_pos (Or.inr n0)] at h5
                rw [if_neg (by simp [hv])] at h5
                skip
                rw [← HL.out, h5]
              have e1 : X.extract 1 (a.size - i) = rest a (i + 1) := HE1.out 1
              have e2 : Y.extract 1 (b.size - k) = rest b (k + 1) := HE2.out 1
              have HR : Hid (strLen (.string (rest a (i + 1))) = a.size - (i + 1)) := rest_size _ _
              clear hv HST HE1 HE2
              have z1 : X.size = a.size - i := hwx.out.1
              have z2 : Y.size = b.size - k := hwx.out.2
              rw [← z1] at e1
              rw [← z2] at e2
              clear z1 z2
              obtain ⟨X3, HX3⟩ : ∃ X3, Hid (rest a (i + 1) = X3) := ⟨_, rfl⟩
              obtain ⟨Y3, HY3⟩ : ∃ Y3, Hid (rest b (k + 1) = Y3) := ⟨_, rfl⟩
              rw [HX3.out] at e1 HR
              rw [HY3.out] at e2
              go_wp2_with fail
              go_quiet (fail)
              go_wp2_with fail
              go_roundw
              case rel => exact ⟨i + 1, k + 1, by omega, by omega, by rw [HX3.out], by rw [HY3.out], HM.out, bdrewN HB5.out _⟩
              case measure => rw [HR.out, HX.out]; omega
            · have hv2 : (byteC x0 y0 != 0) = true := bne_iff_ne.2 hv
              obtain rfl : byteC x0 y0 = c := by
                have h5 := HST.out
                rw [if_pos (Or.inr n0)] at h5
                rw [if_pos hv, HL.out] at h5
                have h6 := HC.out
                unfold digC at h6
                rw [if_pos (show lexN (encN a.data.toList) (encN b.data.toList) ≠ 0 from by rw [show lexN (encN a.data.toList) (encN b.data.toList) = _ from h5]; exact hv)] at h6
                exact h5.symm.trans h6
              clear hv HST HE1 HE2
              go_wp2_with fail
              go_ret
              exact ⟨rfl, HB5.out⟩
          · have bn : ((n : Int) == 0) = false := beq_eq_false_iff_ne.2 (by omega)
            by_cases hv : nc = 0
            · have hv2 : (nc != 0) = false := by rw [hv]; rfl
              have HM : Hid (lx (a.data.toList.drop (i + m)) (b.data.toList.drop (k + n)) = lx a.data.toList b.data.toList) := by
                show _ = _
                have h5 := HST.out
                rw [if_neg (by simp [m0, n0])] at h5
                rw [if_neg (by simp [hv])] at h5
                rw [List.drop_drop, List.drop_drop] at h5
                rw [← HL.out, h5]
              have e1 : X.extract m (a.size - i) = rest a (i + m) := HE1.out m
              have e2 : Y.extract n (b.size - k) = rest b (k + n) := HE2.out n
              have HR : Hid (strLen (.string (rest a (i + m))) = a.size - (i + m)) := rest_size _ _
              clear hv HST HE1 HE2
              have z1 : X.size = a.size - i := hwx.out.1
              have z2 : Y.size = b.size - k := hwx.out.2
              rw [← z1] at e1
              rw [← z2] at e2
              clear z1 z2
              obtain ⟨X3, HX3⟩ : ∃ X3, Hid (rest a (i + m) = X3) := ⟨_, rfl⟩
              obtain ⟨Y3, HY3⟩ : ∃ Y3, Hid (rest b (k + n) = Y3) := ⟨_, rfl⟩
              rw [HX3.out] at e1 HR
              rw [HY3.out] at e2
              go_wp2_with fail
              go_quiet (fail)
              go_wp2_with fail
              go_roundw
              case rel => exact ⟨i + m, k + n, by omega, by omega, by rw [HX3.out], by rw [HY3.out], HM.out, bdrewN HB4.out _⟩
              case measure => rw [HR.out, HX.out]; omega
            · have hv2 : (nc != 0) = true := bne_iff_ne.2 hv
              obtain rfl : nc = c := by
                have h5 := HST.out
                rw [if_neg (by simp [m0, n0])] at h5
                rw [if_pos hv, HL.out] at h5
                have h6 := HC.out
                unfold digC at h6
                rw [if_pos (show lexN (encN a.data.toList) (encN b.data.toList) ≠ 0 from by rw [show lexN (encN a.data.toList) (encN b.data.toList) = _ from h5]; exact hv)] at h6
                exact h5.symm.trans h6
              clear hv HST HE1 HE2
              go_wp2_with fail
              go_ret
              exact ⟨rfl, HB4.out⟩
      · have hk : b.size ≤ k := by omega
        have HV : Hid (orC (Lib.compareBytes (a.data.toList.drop i) []) (Lib.compareBytes a.data.toList b.data.toList) = c) := by
          show _ = _
          have h5 := HL.out
          rw [List.drop_eq_nil_of_le (show b.data.toList.length ≤ k by rw [← HBL.out]; exact hk), lx_nil_right] at h5
          rw [h5]; exact HC.out
        have hX : (rest b k) = ⟨#[]⟩ := rest_empty b k hk
        have HC1 : Hid (∀ w : World, Calls Tryd.prog 35 #[.string (rest a i), .string ⟨#[]⟩] w fun e w' => e = .returned (.int .i64 (Lib.compareBytes (a.data.toList.drop i) [])) ∧ w' = w) := fun w => by
          have := compare_any (rest a i) ⟨#[]⟩ w
          rw [rest_list] at this
          exact this
        have hex : (rest a i).toList.isEmpty = false := ne_empty (by rw [rest_size]; omega)
        rw [hX]
        generalize rest a i = X at *
        generalize Lib.compareBytes (a.data.toList.drop i) [] = d at *
        have HC2 : Hid (∀ w : World, Calls Tryd.prog 35 #[.string a, .string b] w fun e w' => e = .returned (.int .i64 (Lib.compareBytes a.data.toList b.data.toList)) ∧ w' = w) := compare_any a b
        generalize Lib.compareBytes a.data.toList b.data.toList = f at *
        have HBL2 : Hid (Below w.heap.size w (wr.alloc (.cells #[.int .i64 d, .int .i64 f] 3))) := HB.out.alloc HB.out.size _
        have HO : Hid (Calls Tryd.prog 36 #[.slice (some ⟨wr.heap.size, 0, none⟩) 2 2] (wr.alloc (.cells #[.int .i64 d, .int .i64 f] 3)) fun e w' => e = .returned (.int .i64 (orC d f)) ∧ w' = wr.alloc (.cells #[.int .i64 d, .int .i64 f] 3)) :=
          or_two d f wr.heap.size _ ((Blk.new wr 3 #[.int .i64 d, .int .i64 f]).cell 0) ((Blk.new wr 3 #[.int .i64 d, .int .i64 f]).cell 1)
        clear HL HC
        go_wp2_with fail
        refine (HC1.out _).mono ?_
        intro e w5 hw5
        obtain ⟨he5, hw5⟩ := hw5
        subst he5
        subst hw5
        go_wp2_with fail
        refine (HC2.out _).mono ?_
        intro e w6 hw6
        obtain ⟨he6, hw6⟩ := hw6
        subst he6
        subst hw6
        go_wp2_with fail
        refine HO.out.mono ?_
        intro e w7 hw7
        obtain ⟨he7, hw7⟩ := hw7
        subst he7
        subst hw7
        go_wp2_with fail
        go_ret
        exact ⟨by rw [← HV.out]; rfl, HBL2.out⟩
    · have hk : a.size ≤ i := by omega
      have HV : Hid (orC (Lib.compareBytes [] (b.data.toList.drop k)) (Lib.compareBytes a.data.toList b.data.toList) = c) := by
        show _ = _
        have h5 := HL.out
        rw [List.drop_eq_nil_of_le (show a.data.toList.length ≤ i by rw [← HAL.out]; exact hk), lx_nil_left] at h5
        rw [h5]; exact HC.out
      have hX : (rest a i) = ⟨#[]⟩ := rest_empty a i hk
      have HC1 : Hid (∀ w : World, Calls Tryd.prog 35 #[.string ⟨#[]⟩, .string (rest b k)] w fun e w' => e = .returned (.int .i64 (Lib.compareBytes [] (b.data.toList.drop k))) ∧ w' = w) := fun w => by
        have := compare_any ⟨#[]⟩ (rest b k) w
        rw [rest_list] at this
        exact this
      rw [hX]
      generalize rest b k = X at *
      generalize Lib.compareBytes [] (b.data.toList.drop k) = d at *
      have HC2 : Hid (∀ w : World, Calls Tryd.prog 35 #[.string a, .string b] w fun e w' => e = .returned (.int .i64 (Lib.compareBytes a.data.toList b.data.toList)) ∧ w' = w) := compare_any a b
      generalize Lib.compareBytes a.data.toList b.data.toList = f at *
      have HBL2 : Hid (Below w.heap.size w (wr.alloc (.cells #[.int .i64 d, .int .i64 f] 3))) := HB.out.alloc HB.out.size _
      have HO : Hid (Calls Tryd.prog 36 #[.slice (some ⟨wr.heap.size, 0, none⟩) 2 2] (wr.alloc (.cells #[.int .i64 d, .int .i64 f] 3)) fun e w' => e = .returned (.int .i64 (orC d f)) ∧ w' = wr.alloc (.cells #[.int .i64 d, .int .i64 f] 3)) :=
        or_two d f wr.heap.size _ ((Blk.new wr 3 #[.int .i64 d, .int .i64 f]).cell 0) ((Blk.new wr 3 #[.int .i64 d, .int .i64 f]).cell 1)
      clear HL HC
      go_wp2_with fail
      refine (HC1.out _).mono ?_
      intro e w5 hw5
      obtain ⟨he5, hw5⟩ := hw5
      subst he5
      subst hw5
      go_wp2_with fail
      refine (HC2.out _).mono ?_
      intro e w6 hw6
      obtain ⟨he6, hw6⟩ := hw6
      subst he6
      subst hw6
      go_wp2_with fail
      refine HO.out.mono ?_
      intro e w7 hw7
      obtain ⟨he7, hw7⟩ := hw7
      subst he7
      subst hw7
      go_wp2_with fail
      go_ret
      exact ⟨by rw [← HV.out]; rfl, HBL2.out⟩
end
end Go.Proofs.YtgpghdhkbliodaaDoor

namespace Go.Proofs.YtgpghdhkbliodaaDoor
set_option maxRecDepth 20000
open Go Go.RowKit Go.Nam
set_option linter.unusedVariables false
set_option linter.unusedSimpArgs false
theorem stN_cons (c : UInt8) (l : List UInt8) : stN (c :: l) = if dgt c = true then stN l + 1 else 0 := by
  unfold stN
  rw [List.takeWhile_cons]
  by_cases h : dgt c = true
  · rw [if_pos h, if_pos h]; rfl
  · rw [if_neg h, if_neg h]; rfl
section
variable (s : ByteArray)
set_option maxHeartbeats 4000000 in
theorem rstretch_any (hs : s.size ≤ 4611686018427387904) (i : Nat) (hi : i ≤ s.size) (w : World) :
    Calls Tryd.prog 37 #[.string s, .int .i64 (i : Int)] w fun e w' => e = .returned (.int .i64 (stN (s.data.toList.drop i) : Int)) ∧ w' = w := by
  have HSL : Hid (s.size = s.data.toList.length) := Lib.size_eq s
  generalize hr : stN (s.data.toList.drop i) = r
  have HR : Hid (stN (s.data.toList.drop i) = r) := hr
  clear hr
  go_enter Tryd.func37, Tryd.ntmps37
  go_wp2_with fail
  go_loop [5] (fun v => Hid (∃ n : Nat, i + n ≤ s.size ∧ v = .int .i64 (n : Int) ∧ n + stN (s.data.toList.drop (i + n)) = r)) (fun v => s.size - (intOf v).toNat)
  case atStart => exact ⟨0, by omega, rfl, by rw [Nat.zero_add]; exact HR.out⟩
  case round =>
    obtain ⟨n, hn, rfl, hst⟩ := Hid.out hrel
    have HN : Hid (n + stN (s.data.toList.drop (i + n)) = r) := hst
    clear hrel hst HR
    by_cases h1 : i + n < s.size
    · have j1 : (i : Int) + (n : Int) < (s.size : Int) := by omega
      obtain ⟨x, hx⟩ : ∃ x : UInt8, s[i + n]'h1 = x := ⟨_, rfl⟩
      have hx0 : s.data.toList[i + n]? = some x := by rw [← hx]; exact Lib.data_getElem? s (i + n) h1
      have HE : Hid (stN (s.data.toList.drop (i + n)) = if dgt x = true then stN (s.data.toList.drop (i + n + 1)) + 1 else 0) := by
        show _ = _
        rw [dropAt hx0, stN_cons]
      clear hx0
      by_cases x1 : (48 : Int) ≤ (x.toNat : Int)
      · by_cases x2 : (x.toNat : Int) ≤ 57
        · have HM : Hid (n + 1 + stN (s.data.toList.drop (i + (n + 1))) = r) := by
            have h5 := HE.out
            rw [if_pos (by unfold dgt; simp; omega)] at h5
            have := HN.out
            show _ = _
            rw [h5] at this
            rw [show i + (n + 1) = i + n + 1 from by omega]
            omega
          clear HE HN
          go_wp2_with fail
          go_round
          case rel => exact ⟨n + 1, by omega, by first | rfl | go_num | simp, HM.out⟩
          case measure => simp [intOf]; omega
        · obtain rfl : n = r := by
            have h5 := HE.out
            rw [if_neg (by unfold dgt; simp; omega)] at h5
            have := HN.out
            rw [h5] at this
            exact this
          clear HE HN
          go_wp2_with fail
          go_ret
          exact ⟨rfl, rfl⟩
      · obtain rfl : n = r := by
          have h5 := HE.out
          rw [if_neg (by unfold dgt; simp; omega)] at h5
          have := HN.out
          rw [h5] at this
          exact this
        clear HE HN
        go_wp2_with fail
        go_ret
        exact ⟨rfl, rfl⟩
    · have j1 : ¬ ((i : Int) + (n : Int) < (s.size : Int)) := by omega
      obtain rfl : n = r := by
        have := HN.out
        rw [List.drop_eq_nil_of_le (by rw [← HSL.out]; omega)] at this
        exact this
      go_wp2_with fail
      go_ret
      exact ⟨rfl, rfl⟩
set_option maxHeartbeats 4000000 in
theorem bare_any (w : World) :
    Calls Tryd.prog 38 #[.string s] w fun e w' => e = .returned (.string ⟨(bareL s.data.toList).toArray⟩) ∧ w' = w := by
  have HSL : Hid (s.size = s.data.toList.length) := Lib.size_eq s
  generalize hr : (⟨(bareL s.data.toList).toArray⟩ : ByteArray) = r
  have HR : Hid ((⟨(bareL s.data.toList).toArray⟩ : ByteArray) = r) := hr
  clear hr
  go_enter Tryd.func38, Tryd.ntmps38
  go_wp2_with fail
  go_loop [0] (fun v => Hid (∃ k : Nat, k ≤ s.size ∧ v = .string (rest s k) ∧ (⟨(bareL (s.data.toList.drop k)).toArray⟩ : ByteArray) = r)) (fun v => strLen v)
  case atStart => exact ⟨0, by omega, by rw [rest_zero], HR.out⟩
  case round =>
    obtain ⟨k, hk, rfl, hst⟩ := Hid.out hrel
    have HN : Hid ((⟨(bareL (s.data.toList.drop k)).toArray⟩ : ByteArray) = r) := hst
    clear hrel hst HR
    have hz : (rest s k).size = s.size - k := rest_size s k
    by_cases h1 : k < s.size
    · have j1 : (0 : Int) < ((rest s k).size : Int) := by omega
      have h0 : 0 < (rest s k).size := by omega
      obtain ⟨x, hx⟩ : ∃ x : UInt8, (rest s k)[0]'h0 = x := ⟨_, rfl⟩
      have hx0 : s.data.toList[k]? = some x := by
        rw [← hx]
        have := Lib.data_getElem? (rest s k) 0 h0
        rw [rest_list, List.getElem?_drop] at this
        exact this
      have HE : Hid (bareL (s.data.toList.drop k) = if (x == 48) = true then bareL (s.data.toList.drop (k + 1)) else s.data.toList.drop k) := by
        show _ = _
        rw [dropAt hx0]
        exact List.dropWhile_cons
      have e1 : (rest s k).extract 1 (s.size - k) = rest s (k + 1) := rest_rest s k 1
      rw [← hz] at e1
      have hz1 : (rest s (k + 1)).size = s.size - (k + 1) := rest_size s (k + 1)
      clear hx0
      by_cases x1 : x = 48
      · have b1 : ((x.toNat : Int) == 48) = true := by rw [x1]; rfl
        have HM : Hid ((⟨(bareL (s.data.toList.drop (k + 1))).toArray⟩ : ByteArray) = r) := by
          have h5 := HE.out
          rw [if_pos (by rw [x1]; rfl)] at h5
          have := HN.out
          rw [h5] at this
          exact this
        have HZ : Hid ((rest s k).size = s.size - k ∧ (rest s (k + 1)).size = s.size - (k + 1)) := ⟨hz, hz1⟩
        clear HE HN x1 hz hz1
        obtain ⟨X3, HX3⟩ : ∃ X3, Hid (rest s (k + 1) = X3) := ⟨_, rfl⟩
        rw [HX3.out] at e1
        generalize hX : rest s k = X at *
        clear hX
        go_wp2_with fail
        go_round
        case rel => exact ⟨k + 1, by omega, by rw [HX3.out], HM.out⟩
        case measure => show X3.size < X.size; rw [← HX3.out, HZ.out.1, HZ.out.2]; omega
      · have b1 : ((x.toNat : Int) == 48) = false := by
          rw [beq_eq_false_iff_ne]
          intro e
          exact x1 (UInt8.toNat_inj.1 (by exact_mod_cast e))
        obtain rfl : rest s k = r := by
          have h5 := HE.out
          rw [if_neg (by simp [x1])] at h5
          have := HN.out
          rw [h5] at this
          exact this
        clear HE HN x1 e1 hz1
        go_wp2_with fail
        go_ret
        exact ⟨rfl, rfl⟩
    · have j1 : ¬ ((0 : Int) < ((rest s k).size : Int)) := by omega
      obtain rfl : rest s k = r := by
        have := HN.out
        rw [List.drop_eq_nil_of_le (by rw [← HSL.out]; omega)] at this
        rw [rest_empty s k (by omega)]
        exact this
      clear HN
      go_wp2_with fail
      go_ret
      exact ⟨rfl, rfl⟩
end
end Go.Proofs.YtgpghdhkbliodaaDoor
