/- Stretches of zeros: what lies ahead of a place stays (no program in it). -/
import Derived.Test.YtelgceaembmenaaGreatHFlCalls
import Derived.Test.YtelgceaembmenaaGreatHFlText
import Derived.Maps.AppendAt
import Derived.Handy
import Derived.Great.BuildSlice
import Derived.Test.YtelgceaembmenaaGreatHFlShiftsLaw

namespace Go.Proofs.YtelgceaembmenaaGreat
open Go Go.RowKit
set_option linter.unusedSimpArgs false
set_option linter.unusedVariables false
/-- stretches as cells -/
def ruL : List (Nat × Nat) → List Value
  | [] => []
  | r :: l => .int .i64 ((r.1 : Nat) : Int) :: .int .i64 ((r.2 : Nat) : Int) :: ruL l
theorem ruL_app (l m : List (Nat × Nat)) : ruL (l ++ m) = ruL l ++ ruL m := by
  induction l with
  | nil => rfl
  | cons r l ih => show _ :: _ :: ruL (l ++ m) = _ :: _ :: (ruL l ++ ruL m); rw [ih]
theorem ruL_len (l : List (Nat × Nat)) : (ruL l).length = l.length * 2 := by
  induction l with
  | nil => rfl
  | cons r l ih => show (ruL l).length + 1 + 1 = (l.length + 1) * 2; omega
theorem ruL_at (l : List (Nat × Nat)) (i : Nat) (r : Nat × Nat) (h : l[i]? = some r) : (ruL l)[i * 2]? = some (.int .i64 ((r.1 : Nat) : Int)) ∧ (ruL l)[i * 2 + 1]? = some (.int .i64 ((r.2 : Nat) : Int)) := by
  induction l generalizing i with
  | nil => simp at h
  | cons q l ih =>
    rcases i with _ | i
    · simp at h
      subst h
      exact ⟨rfl, rfl⟩
    · have := ih i (by simpa using h)
      rw [show (i + 1) * 2 = i * 2 + 1 + 1 by omega]
      exact this
/-- with a place more -/
def withP (l : List (Nat × Nat)) (p : Nat) : List (Nat × Nat) := match l.getLast? with
  | some r => if r.2 + 1 = p then l.dropLast ++ [(r.1, p)] else l ++ [(p, p)]
  | none => [(p, p)]
theorem withP_yes (l : List (Nat × Nat)) (a b p : Nat) (h : b + 1 = p) : withP (l ++ [(a, b)]) p = l ++ [(a, p)] := by
  unfold withP
  simp [h]
theorem withP_no (l : List (Nat × Nat)) (a b p : Nat) (h : ¬ b + 1 = p) : withP (l ++ [(a, b)]) p = l ++ [(a, b)] ++ [(p, p)] := by
  unfold withP
  simp [h]
theorem infoRu : (Tryz.prog.info? 47).map (fun i => (i.zero, i.size, i.bytes)) = some (some (.agg #[.int .i64 0, .int .i64 0]), 2, 16) := by kernel_rfl
theorem ru_new2 (w : World) (x y : Value) (t : TypeId) : ∀ j u, ([x, y] : List Value)[j]? = some u → (w.alloc (.cells #[x, y] t)).cell? ((⟨w.heap.size, 0, none⟩ : Addr).add j) = some u := by
  intro j u h
  have hb := Blk.new w t #[x, y]
  rcases j with _ | j
  · simp at h; subst h; exact hb.cell 0
  · rcases j with _ | j
    · simp at h; subst h; exact hb.cell 1
    · simp at h
set_option maxRecDepth 100000 in
set_option maxHeartbeats 4000000 in
theorem withPlace_any (l : List (Nat × Nat)) (hl : l.length ≤ 5000) (hb : ∀ r, r ∈ l → r.2 ≤ 5000) (p B : Nat) (hp : p ≤ 5000) (v : Value) (w : World) (hB : B ≤ w.heap.size) (hv : w.ownsRow B 47 2 v l.length (ruL l)) : Calls Tryz.prog 35 #[v, .int .i64 (p : Int)] w fun e w' => (∃ v', e = .returned v' ∧ w'.ownsRow B 47 2 v' (withP l p).length (ruL (withP l p))) ∧ Below B w w' := by
  obtain ⟨i0, hi0, hz0, hz1, hz2⟩ := info_parts infoRu
  have pb : (p : Int) ≤ 5000 := by omega
  have HAP : Hid ((w.alloc (.cells #[.int .i64 (p : Int), .int .i64 (p : Int)] 47)).ownsRow B 47 2 v l.length (ruL l)) := hv.alloc _
  have HV2 := HAP.out.lt
  have hbA : Below B w (w.alloc (.cells #[.int .i64 (p : Int), .int .i64 (p : Int)] 47)) := (Below.refl _ _).alloc hB _
  have hsz : B ≤ (w.alloc (.cells #[.int .i64 (p : Int), .int .i64 (p : Int)] 47)).heap.size := Nat.le_trans hB (by simp)
  have hml : l.length + 1 ≤ maxLen := Nat.le_trans (by omega : l.length + 1 ≤ 5001) (by decide)
  rcases List.eq_nil_or_concat l with rfl | ⟨l0, ⟨a, b⟩, rfl⟩
  · obtain ⟨ad, cc, rfl⟩ := kown_slice hv
    have HW : Hid (ruL (withP [] p) = ruL [] ++ [.int .i64 (p : Int), .int .i64 (p : Int)]) := rfl
    clear hv
    go_enter Tryz.func35, Tryz.ntmps35
    go_wp2_with (first
      | (at_builtin; refine wpList_append_own _ rfl _ _ 41 rfl B 47 i0 (.agg #[.int .i64 0, .int .i64 0]) 2 16 Tryz.underlying41 hi0 hz0 hz1 hz2 rfl (by decide) _ _ _ rfl HAP.out ⟨w.heap.size, 0, none⟩ 1 1 [.int .i64 (p : Int), .int .i64 (p : Int)] rfl rfl (ru_new2 w (.int .i64 (p : Int)) (.int .i64 (p : Int)) 47) (by simp [Value.oneCell']) hml (by decide) (by simpa using hsz) ?_)
      | fail)
    intro v' w5 hown' hgrow _
    have HE : Hid (w5.ownsRow B 47 2 v' 1 (ruL (withP [] p)) ∧ Below B w w5) := ⟨by rw [HW.out]; exact hown', hbA.grown hgrow hsz (fun q hq => (HV2 q hq).1)⟩
    clear hown' hgrow HAP HV2 hbA
    go_wp2_with fail
    go_ret
    exact ⟨⟨v', rfl, HE.out.1⟩, HE.out.2⟩
  · rw [List.concat_eq_append] at hv HAP hml hl hb ⊢
    have hlen : (l0 ++ [(a, b)]).length = l0.length + 1 := by simp
    rw [hlen] at hv HAP hml hl
    obtain ⟨g, cc, rfl, hgB, hgw⟩ := kown_form hv (Nat.succ_pos _)
    have hbb : b ≤ 5000 := hb (a, b) (by simp)
    have hat := ruL_at (l0 ++ [(a, b)]) l0.length (a, b) (by simp)
    have c1 : w.cell? ⟨g, l0.length * 2 + 1, none⟩ = some (.int .i64 (b : Int)) := by
      rw [hv.cellAt (l0.length * 2 + 1) (by omega)]
      exact hat.2
    have f1 : w.frozen? ⟨g, l0.length * 2 + 1, none⟩ = false := hv.frozenAt _
    have bB : (b : Int) ≤ 5000 := by omega
    have HST : Hid (b + 1 = p → (w.setCell ⟨g, l0.length * 2 + 1, none⟩ (.int .i64 (p : Int))).ownsRow B 47 2 (.slice (some ⟨g, 0, none⟩) (l0.length + 1) cc) (withP (l0 ++ [(a, b)]) p).length (ruL (withP (l0 ++ [(a, b)]) p)) ∧ Below B w (w.setCell ⟨g, l0.length * 2 + 1, none⟩ (.int .i64 (p : Int)))) := fun hbp => by
      obtain ⟨h1, h2⟩ := hv.stored (l0.length * 2 + 1) (.int .i64 (p : Int))
      refine ⟨?_, (Below.refl _ _).grown h2 hB (fun k hk => by injection hk with hk; omega)⟩
      rw [withP_yes l0 a b p hbp, show (l0 ++ [(a, p)]).length = l0.length + 1 by simp]
      have e : (ruL (l0 ++ [(a, b)])).set (l0.length * 2 + 1) (.int .i64 (p : Int)) = ruL (l0 ++ [(a, p)]) := by
        rw [ruL_app, ruL_app, List.set_append_right _ _ (by rw [ruL_len]; omega), ruL_len, show l0.length * 2 + 1 - l0.length * 2 = 1 by omega]
        rfl
      rw [e] at h1
      exact h1
    have HNO : Hid (¬ b + 1 = p → ruL (withP (l0 ++ [(a, b)]) p) = ruL (l0 ++ [(a, b)]) ++ [.int .i64 (p : Int), .int .i64 (p : Int)] ∧ (withP (l0 ++ [(a, b)]) p).length = l0.length + 1 + 1) := fun hbp => by
      rw [withP_no l0 a b p hbp, ruL_app]
      exact ⟨rfl, by simp⟩
    obtain ⟨n, hn⟩ : ∃ n, n = l0.length := ⟨_, rfl⟩
    rw [← hn] at HST HNO c1 f1 HAP hml hl
    have HVL : Hid (∀ q, (Value.slice (some ⟨g, 0, none⟩) (n + 1) cc).ownBlock = some q → B ≤ q) := fun q hq => by
      have : q = g := by simpa [Value.ownBlock] using hq.symm
      omega
    rw [← hn]
    obtain ⟨nn, hnn⟩ : ∃ m, m = n + 1 := ⟨_, rfl⟩
    have e1 : (nn : Int) - 1 = (n : Int) := by omega
    have n1 : (n : Int) < (nn : Int) := by omega
    have nb : (nn : Int) ≤ 5001 := by omega
    rw [← hnn] at HST HNO HAP hml hl HVL ⊢
    clear hv hlen hat hn hnn HV2 hb hl
    generalize hWl : withP (l0 ++ [(a, b)]) p = wl at *
    clear hWl
    generalize ruL (l0 ++ [(a, b)]) = rl at *
    by_cases hbp : b + 1 = p
    · have e2 : (p : Int) - 1 = (b : Int) := by omega
      have HE : Hid _ := HST.out hbp
      clear hbp
      go_enter Tryz.func35, Tryz.ntmps35
      go_wp2_with fail
      go_ret
      exact ⟨⟨_, rfl, HE.out.1⟩, HE.out.2⟩
    · obtain ⟨pm, hpm⟩ : ∃ q : Int, (p : Int) - 1 = q := ⟨_, rfl⟩
      have e3 : ((b : Int) == pm) = false := by simp; omega
      have HE := HNO.out hbp
      have HE2 : Hid _ := HE
      clear hbp HE
      go_enter Tryz.func35, Tryz.ntmps35
      go_wp2_with (first
        | (at_builtin; refine wpList_append_own _ rfl _ _ 41 rfl B 47 i0 (.agg #[.int .i64 0, .int .i64 0]) 2 16 Tryz.underlying41 hi0 hz0 hz1 hz2 rfl (by decide) _ _ _ rfl HAP.out ⟨w.heap.size, 0, none⟩ 1 1 [.int .i64 (p : Int), .int .i64 (p : Int)] rfl rfl (ru_new2 w (.int .i64 (p : Int)) (.int .i64 (p : Int)) 47) (by simp [Value.oneCell']) hml (by omega) (by simpa using hsz) ?_)
        | fail)
      intro v' w5 hown' hgrow _
      have HF : Hid (w5.ownsRow B 47 2 v' wl.length (ruL wl) ∧ Below B w w5) := ⟨by rw [HE2.out.1, HE2.out.2]; exact hown', hbA.grown hgrow hsz (fun q hq => HVL.out q hq)⟩
      clear hown' hgrow HAP hbA
      go_wp2_with fail
      go_ret
      exact ⟨⟨v', rfl, HF.out.1⟩, HF.out.2⟩
end Go.Proofs.YtelgceaembmenaaGreat

namespace Go.Proofs.YtelgceaembmenaaGreat
open Go Go.RowKit
set_option linter.unusedSimpArgs false
set_option linter.unusedVariables false
/-- the stretches among the first p places -/
def hoL (Z : Nat → Bool) : Nat → List (Nat × Nat)
  | 0 => []
  | p + 1 => if Z p = true then withP (hoL Z p) p else hoL Z p
theorem withP_len (l : List (Nat × Nat)) (p : Nat) : (withP l p).length ≤ l.length + 1 := by
  rcases List.eq_nil_or_concat l with rfl | ⟨l0, ⟨a, b⟩, rfl⟩
  · simp [withP]
  · rw [List.concat_eq_append]
    by_cases h : b + 1 = p
    · rw [withP_yes _ _ _ _ h]; simp
    · rw [withP_no _ _ _ _ h]; simp
theorem withP_le (l : List (Nat × Nat)) (p : Nat) (h : ∀ r, r ∈ l → r.2 < p) : ∀ r, r ∈ withP l p → r.2 < p + 1 := by
  rcases List.eq_nil_or_concat l with rfl | ⟨l0, ⟨a, b⟩, rfl⟩
  · intro r hr
    simp [withP] at hr
    rw [hr]
    exact Nat.lt_succ_self p
  · rw [List.concat_eq_append] at h ⊢
    intro r hr
    by_cases hb : b + 1 = p
    · rw [withP_yes _ _ _ _ hb] at hr
      rcases List.mem_append.1 hr with hr | hr
      · have := h r (List.mem_append_left _ hr); omega
      · simp at hr; rw [hr]; exact Nat.lt_succ_self p
    · rw [withP_no _ _ _ _ hb] at hr
      rcases List.mem_append.1 hr with hr | hr
      · have := h r hr; omega
      · simp at hr; rw [hr]; exact Nat.lt_succ_self p
theorem ho_len (Z : Nat → Bool) (p : Nat) : (hoL Z p).length ≤ p := by
  induction p with
  | zero => exact Nat.le_refl _
  | succ p ih =>
    unfold hoL
    split
    · have := withP_len (hoL Z p) p; omega
    · omega
theorem ho_le (Z : Nat → Bool) (p : Nat) : ∀ r, r ∈ hoL Z p → r.2 < p := by
  induction p with
  | zero => intro r hr; simp [hoL] at hr
  | succ p ih =>
    intro r hr
    unfold hoL at hr
    split at hr
    · exact withP_le _ _ ih r hr
    · have := ih r hr; omega
/-- is a leaf zeros? -/
def zeB (D : Nat → Nat → Nat → Nat) (n q : Nat) : Bool := decide (bkSame (D n q) fun _ => 0)
theorem fh_built : Tryz.prog.built 96 [] = some (va 256 (iv .u8 fun _ => 0)) := by kernel_rfl
section
variable {w : World} {x mf ml mc : Nat} {cp : Option Addr} {top : Int} {H : Nat → Hd} {D : Nat → Nat → Nat → Nat} {n sz st : Nat} {F : Nat → Nat}
set_option maxRecDepth 100000 in
set_option maxHeartbeats 8000000 in
theorem IM.holesF (h : IM w x mf ml mc cp top H D) (hf : Fi H D n sz st F) : Calls Tryz.prog 13 #[.pointer (some ⟨x, 0, none⟩), .int .i64 (n : Int)] w fun e w' => (∃ v, e = .returned (.tuple #[v, .int .i64 0]) ∧ w'.ownsRow w.heap.size 47 2 v (hoL (zeB D n) ((sz + 255) / 256)).length (ruL (hoL (zeB D n) ((sz + 255) / 256)))) ∧ Below w.heap.size w w' := by
  have H1 := h.oneF hf
  have hle := hf.le
  have hzb := zero_bk
  have hbt := fh_built
  have hzi : ∀ w, (zeroValue 74).run Tryz.prog w = .ok (.agg if0) w := zero_info
  have HLV : Hid (∀ V : World, Calls Tryz.prog 33 #[.int .i64 (sz : Int)] V fun e w' => e = .returned (.int .i64 (((sz + 255) / 256 : Nat) : Int)) ∧ w' = V) := leavesF_any sz hle
  have HLF : Hid (∀ V, Below w.heap.size w V → ∀ q : Nat, q < 4096 → Calls Tryz.prog 34 #[.pointer (some ⟨x, 0, none⟩), .int .i64 (n : Int), .int .i64 (q : Int)] V fun e w' => e = .returned (.tuple #[.agg (va 256 (iv .u8 (D n q))), .int .i64 0]) ∧ Below V.heap.size V w') := fun V hV q hq => (h.below hV).leafF hf q hq
  obtain ⟨P, hP⟩ : ∃ P, P = (sz + 255) / 256 := ⟨_, rfl⟩
  have hPb : P ≤ 4096 := by omega
  rw [← hP] at HLV ⊢
  have HEQ : Hid (∀ q w, (Op.equalIn 10000 96 (.agg (va 256 (iv .u8 (D n q)))) (.agg (va 256 (iv .u8 fun _ => 0)))).run Tryz.prog w = .ok (zeB D n q) w) := fun q w => eq_bk 96 Tryz.underlying96 (D n q) (fun _ => 0) w
  have HHO : Hid ((∀ p, (hoL (zeB D n) p).length ≤ p) ∧ (∀ p r, r ∈ hoL (zeB D n) p → r.2 < p) ∧ (∀ p, hoL (zeB D n) (p + 1) = if zeB D n p = true then withP (hoL (zeB D n) p) p else hoL (zeB D n) p)) := ⟨ho_len _, ho_le _, fun p => rfl⟩
  have pB : (P : Int) ≤ 4096 := by omega
  clear h hf hP hle
  go_enter Tryz.func13, Tryz.ntmps13
  go_wp2_with fail
  refine H1.mono ?_
  rintro e w2 ⟨rfl, hb2⟩
  have u1 : Blk (w2.alloc (.cells if0 74)) w2.heap.size 74 if0 := Blk.new _ _ _
  have u2 := u1.set (fiC n sz st)
  have c3 : ((w2.alloc (.cells if0 74)).setRow w2.heap.size (fiC n sz st)).cell? ⟨w2.heap.size, 3, none⟩ = some (.int .i64 (sz : Int)) := (u2.cell 3).trans rfl
  have HE : Hid (Below w.heap.size w ((w2.alloc (.cells if0 74)).setRow w2.heap.size (fiC n sz st))) := below_setRow (hb2.alloc hb2.size _) hb2.size _
  clear hb2 H1
  go_wp2_with (first
    | (refine wpList_store_row (by rfl) 74 _ _ (by rfl) (w2.heap.size) (fiC n sz st) (by rfl) (by rfl) 74 if0 (by exact u1) (sizeInfo.trans (by rfl)) (by rfl) (fi_all _ _ _) ?_; simp only [Act.put, List.setIfInBounds_toArray, List.set_cons_zero, List.set_cons_succ])
    | fail)
  refine (HLV.out _).mono ?_
  rintro e w3 ⟨rfl, hw3⟩
  subst hw3
  clear u1 u2 c3
  go_wp2_with fail
  go_loopw [8, 24] (fun v8 v24 wr => Hid (∃ (p : Nat), p ≤ P ∧ v24 = .int .i64 (p : Int) ∧ wr.ownsRow w.heap.size 47 2 v8 (hoL (zeB D n) p).length (ruL (hoL (zeB D n) p)) ∧ Below w.heap.size w wr)) (fun _ v24 _ => P - (intOf v24).toNat)
  case atStart => exact ⟨0, Nat.zero_le _, rfl, World.ownsRow_nil _ _ _ _, HE.out⟩
  case round =>
    obtain ⟨p, hp, rfl, hown, hbel⟩ := Hid.out hrel
    have HO : Hid (wr.ownsRow w.heap.size 47 2 u8 (hoL (zeB D n) p).length (ruL (hoL (zeB D n) p)) ∧ Below w.heap.size w wr) := ⟨hown, hbel⟩
    clear hrel hown hbel HE
    by_cases hpP : p < P
    · have p1 : (p : Int) < (P : Int) := by omega
      have HL1 := HLF.out wr HO.out.2 p (by omega)
      have heq := HEQ.out p
      have HST := HHO.out.2.2 p
      have HSTEP : Hid (_ = _) := HST
      clear HST
      go_wp2_with fail
      refine HL1.mono ?_
      rintro e w5 ⟨rfl, hb5⟩
      have b1 : Blk (w5.alloc (.cells (va 256 (iv .u8 fun _ => 0)) 96)) w5.heap.size 96 (va 256 (iv .u8 fun _ => 0)) := Blk.new _ _ _
      have b2 : Blk ((w5.alloc (.cells (va 256 (iv .u8 fun _ => 0)) 96)).setRow w5.heap.size (va 256 (iv .u8 (D n p)))) w5.heap.size 96 (va 256 (iv .u8 (D n p))) := b1.set _
      have HX : Hid (((w5.alloc (.cells (va 256 (iv .u8 fun _ => 0)) 96)).setRow w5.heap.size (va 256 (iv .u8 (D n p)))).ownsRow w.heap.size 47 2 u8 (hoL (zeB D n) p).length (ruL (hoL (zeB D n) p)) ∧ Below w.heap.size w ((w5.alloc (.cells (va 256 (iv .u8 fun _ => 0)) 96)).setRow w5.heap.size (va 256 (iv .u8 (D n p))))) := by
        have hbb := HO.out.2.trans (hb5.mono HO.out.2.size)
        refine ⟨kown_setRow ((kown_below HO.out.1 hb5).alloc _) (fun k hk hkk => ?_) _, below_setRow (hbb.alloc hbb.size _) hbb.size _⟩
        have := ((kown_below HO.out.1 hb5).lt k hkk).2
        omega
      clear hb5 HL1 HO
      generalize hzq : zeB D n p = zq at *
      have HZQ : Hid (zeB D n p = zq) := hzq
      clear hzq
      cases zq
      · have HNX : Hid (hoL (zeB D n) (p + 1) = hoL (zeB D n) p) := by
          show _ = _
          rw [HHO.out.2.2 p, HZQ.out]
          rfl
        go_wp2_with (first
          | (refine wpList_store_row (by rfl) 96 _ _ (by rfl) (w5.heap.size) (va 256 (iv .u8 (D n p))) (by rfl) (by rfl) 96 _ b1 (sizeBk.trans (by rw [va_size])) (by simp only [va_size]) (iv_one _ _ _) ?_; simp only [Act.put, List.setIfInBounds_toArray, List.set_cons_zero, List.set_cons_succ])
          | (refine wpList_load_row (by rfl) 96 _ (by rfl) (w5.heap.size) (by rfl) 96 (va 256 (iv .u8 (D n p))) (0, 0) _ b2 Tryz.underlying96 (by rfl) (sizeBk.trans (by rw [va_size])) ?_; simp only [Act.put, List.setIfInBounds_toArray, List.set_cons_zero, List.set_cons_succ])
          | (refine wpList_buildTo (by rfl) 96 #[] (by rfl) _ rfl (va 256 (iv .u8 fun _ => 0)) (by exact hbt) ?_; simp only [Act.put, List.setIfInBounds_toArray, List.set_cons_zero, List.set_cons_succ])
          | fail)
        go_roundw
        case rel => exact ⟨p + 1, by omega, by first | rfl | go_num | simp, by rw [HNX.out]; exact HX.out.1, HX.out.2⟩
        case measure => simp [intOf]; omega
      · have HNX : Hid (hoL (zeB D n) (p + 1) = withP (hoL (zeB D n) p) p) := by
          show _ = _
          rw [HHO.out.2.2 p, HZQ.out]
          rfl
        have HWP := withPlace_any (hoL (zeB D n) p) (by have := HHO.out.1 p; omega) (fun r hr => by have := HHO.out.2.1 p r hr; omega) p w.heap.size (by omega) u8 _ HX.out.2.size HX.out.1
        go_wp2_with (first
          | (refine wpList_store_row (by rfl) 96 _ _ (by rfl) (w5.heap.size) (va 256 (iv .u8 (D n p))) (by rfl) (by rfl) 96 _ b1 (sizeBk.trans (by rw [va_size])) (by simp only [va_size]) (iv_one _ _ _) ?_; simp only [Act.put, List.setIfInBounds_toArray, List.set_cons_zero, List.set_cons_succ])
          | (refine wpList_load_row (by rfl) 96 _ (by rfl) (w5.heap.size) (by rfl) 96 (va 256 (iv .u8 (D n p))) (0, 0) _ b2 Tryz.underlying96 (by rfl) (sizeBk.trans (by rw [va_size])) ?_; simp only [Act.put, List.setIfInBounds_toArray, List.set_cons_zero, List.set_cons_succ])
          | (refine wpList_buildTo (by rfl) 96 #[] (by rfl) _ rfl (va 256 (iv .u8 fun _ => 0)) (by exact hbt) ?_; simp only [Act.put, List.setIfInBounds_toArray, List.set_cons_zero, List.set_cons_succ])
          | fail)
        refine HWP.mono ?_
        rintro e w7 ⟨⟨v', rfl, hv'⟩, hb7⟩
        have HF : Hid (w7.ownsRow w.heap.size 47 2 v' (hoL (zeB D n) (p + 1)).length (ruL (hoL (zeB D n) (p + 1))) ∧ Below w.heap.size w w7) := ⟨by rw [HNX.out]; exact hv', HX.out.2.trans hb7⟩
        clear hv' hb7 HWP HX b1 b2
        go_wp2_with fail
        go_roundw
        case rel => exact ⟨p + 1, by omega, by first | rfl | go_num | simp, HF.out.1, HF.out.2⟩
        case measure => simp [intOf]; omega
    · have p1 : ¬ ((p : Int) < (P : Int)) := by omega
      obtain rfl : p = P := by omega
      go_wp2_with fail
      go_ret2
      exact ⟨⟨u8, rfl, HO.out.1⟩, HO.out.2⟩
end
end Go.Proofs.YtelgceaembmenaaGreat

namespace Go.Proofs.YtelgceaembmenaaGreat
open Go Go.RowKit
set_option linter.unusedSimpArgs false
set_option linter.unusedVariables false
/-- the bytes of a range that are there -/
def prT (s : ByteArray) (a m : Nat) : ByteArray := strN (fun j => tbyte s (a + j)) (thN s.size a m)
theorem prT_out (s : ByteArray) (a m : Nat) (h : s.size ≤ a) : prT s a m = ⟨#[]⟩ := by
  have : thN s.size a m = 0 := by unfold thN; omega
  unfold prT
  rw [this]
  rfl
theorem prT_cut (s : ByteArray) (a m : Nat) (h : a < s.size) (hm : m < s.size - a) : (s.extract a s.size).extract 0 m = prT s a m := by
  have hz := extract_size s a s.size (Nat.le_refl _)
  have ht : thN s.size a m = m := by unfold thN; omega
  refine text_ext ?_ fun j hj => ?_
  · unfold prT
    rw [strN_size, extract_size _ _ _ (by omega), ht]
    rfl
  · rw [extract_size _ _ _ (by omega)] at hj
    unfold prT
    rw [tbyte_extract _ _ _ _ (by omega) (by omega), tbyte_extract _ _ _ _ (Nat.le_refl _) (by omega), strN_at (fun j => tbyte s (a + j)) _ j (by omega) (tbyte_lt _ _), Nat.zero_add]
theorem prT_all (s : ByteArray) (a m : Nat) (h : a < s.size) (hm : ¬ m < s.size - a) : s.extract a s.size = prT s a m := by
  have hz := extract_size s a s.size (Nat.le_refl _)
  have ht : thN s.size a m = s.size - a := by unfold thN; omega
  refine text_ext ?_ fun j hj => ?_
  · unfold prT
    rw [strN_size, hz, ht]
  · rw [hz] at hj
    unfold prT
    rw [tbyte_extract _ _ _ _ (Nat.le_refl _) (by omega), strN_at (fun j => tbyte s (a + j)) _ j (by omega) (tbyte_lt _ _)]
set_option maxRecDepth 100000 in
theorem part_any (s : ByteArray) (a m : Nat) (hs : s.size ≤ 140737488355328) (ha : a ≤ 9223372036854775807) (hm : m ≤ 9223372036854775807) (w : World) : Calls Tryz.prog 14 #[.string s, .int .i64 (a : Int), .int .i64 (m : Int)] w fun e w' => e = .returned (.string (prT s a m)) ∧ w' = w := by
  obtain ⟨S, hS⟩ : ∃ S : Nat, s.size = S := ⟨_, rfl⟩
  by_cases h1 : S ≤ a
  · have HP : Hid (prT s a m = ⟨#[]⟩) := prT_out s a m (by omega)
    have t1 : (S : Int) ≤ (a : Int) := by omega
    go_enter Tryz.func14, Tryz.ntmps14
    go_wp2_with fail
    go_ret
    exact ⟨by rw [HP.out]; rfl, rfl⟩
  · have t1 : ¬ ((S : Int) ≤ (a : Int)) := by omega
    have t2 : (0 : Int) ≤ (a : Int) := by omega
    have t3 : (a : Int) ≤ (S : Int) := by omega
    have hz := extract_size s a s.size (Nat.le_refl _)
    rw [hS] at hz
    obtain ⟨T, hT⟩ : ∃ T : Nat, S - a = T := ⟨_, rfl⟩
    rw [hT] at hz
    have t4 : (0 : Int) ≤ (m : Int) := by omega
    by_cases h2 : m < T
    · have HP : Hid ((s.extract a S).extract 0 m = prT s a m) := by rw [← hS]; exact prT_cut s a m (by omega) (by omega)
      have t5 : (m : Int) < (T : Int) := by omega
      have t6 : (m : Int) ≤ (T : Int) := by omega
      clear h1 h2 hT
      go_enter Tryz.func14, Tryz.ntmps14
      go_wp2_with fail
      go_ret
      exact ⟨by rw [← HP.out]; rfl, rfl⟩
    · have HP : Hid (s.extract a S = prT s a m) := by rw [← hS]; exact prT_all s a m (by omega) (by omega)
      have t5 : ¬ ((m : Int) < (T : Int)) := by omega
      clear h1 h2 hT
      go_enter Tryz.func14, Tryz.ntmps14
      go_wp2_with fail
      go_ret
      exact ⟨by rw [← HP.out]; rfl, rfl⟩
section
variable {w : World} {x mf ml mc : Nat} {cp : Option Addr} {top : Int} {H : Nat → Hd} {D : Nat → Nat → Nat → Nat} {n st : Nat}
end
end Go.Proofs.YtelgceaembmenaaGreat

namespace Go.Proofs.YtelgceaembmenaaGreat
open Go Go.RowKit
set_option linter.unusedSimpArgs false
set_option linter.unusedVariables false
/-- a file among inodes that lie above the world w -/
structure BS (w V : World) (x mf ml mc : Nat) (cp : Option Addr) (top : Int) (H0 : Nat → Hd) (D0 : Nat → Nat → Nat → Nat) (n z st : Nat) (F : Nat → Nat) : Prop where
  now : Now V x mf ml mc cp top H0 D0 n z st F
  bel : Below w.heap.size w V
  gl : w.heap.size ≤ ml
  gf : w.heap.size ≤ mf
  by8 : ∀ p, p < z → F p < 256
/-- how great a file is behind a write -/
def wzN (z a n : Nat) : Nat := if n = 0 then z else max z (a + n)
section
variable {w V : World} {x mf ml mc : Nat} {cp : Option Addr} {top : Int} {H0 : Nat → Hd} {D0 : Nat → Nat → Nat → Nat} {n z st : Nat} {F : Nat → Nat}
theorem BS.le (h : BS w V x mf ml mc cp top H0 D0 n z st F) : z ≤ 1048576 := by
  obtain ⟨H, D, _, hf, _⟩ := h.now
  exact hf.le
theorem BS.below {V' : World} (h : BS w V x mf ml mc cp top H0 D0 n z st F) (hb : Below V.heap.size V V') : BS w V' x mf ml mc cp top H0 D0 n z st F := by
  obtain ⟨H, D, hI, hf, hm⟩ := h.now
  exact ⟨⟨H, D, hI.below hb, hf, hm⟩, h.bel.trans (hb.mono h.bel.size), h.gl, h.gf, h.by8⟩
theorem BS.congr {G : Nat → Nat} (h : BS w V x mf ml mc cp top H0 D0 n z st F) (hG : ∀ p, p < z → G p = F p) : BS w V x mf ml mc cp top H0 D0 n z st G := by
  obtain ⟨H, D, hI, hf, hm⟩ := h.now
  exact ⟨⟨H, D, hI, hf.congr hG, hm⟩, h.bel, h.gl, h.gf, fun p hp => by rw [hG p hp]; exact h.by8 p hp⟩
theorem BS.of_now {V' : World} {H D z' s'} {G : Nat → Nat} (h : BS w V x mf ml mc cp top H0 D0 n z st F) (hm : ∀ m, m ≠ n → H m = H0 m ∧ D m = D0 m) (hN : Now V' x mf ml mc cp top H D n z' s' G) (hT : Turns (fun z => z = ml ∨ z = mf) V V') (hG : ∀ p, p < z' → G p < 256) : BS w V' x mf ml mc cp top H0 D0 n z' s' G := by
  obtain ⟨H', D', h1, h2, h3⟩ := hN
  refine ⟨⟨H', D', h1, h2, fun m hm' => ⟨(h3 m hm').1.trans (hm m hm').1, (h3 m hm').2.trans (hm m hm').2⟩⟩, ?_, h.gl, h.gf, hG⟩
  have := h.gl
  have := h.gf
  exact h.bel.trans (hT.below h.bel.size (fun b hb => by rcases hb with rfl | rfl <;> assumption))
theorem BS.write (h : BS w V x mf ml mc cp top H0 D0 n z st F) (a : Nat) (s : ByteArray) (ha : a + s.size ≤ 1048576) (s' : Nat) : Calls Tryz.prog 9 #[.pointer (some ⟨x, 0, none⟩), .int .i64 (n : Int), .int .i64 (a : Int), .string s, .int .u64 ((s' : Nat) : Int)] V fun e w' => e = .returned (.tuple #[.int .i64 ((a + s.size : Nat) : Int), .int .i64 0]) ∧ BS w w' x mf ml mc cp top H0 D0 n (wzN z a s.size) (if s.size = 0 then st else s') (wrF F z s a) := by
  obtain ⟨H, D, hI, hf, hm⟩ := h.now
  by_cases h0 : s.size = 0
  · have e := empty_text h0
    subst e
    refine (hI.writeNone hf a s' (by omega)).mono ?_
    rintro e w' ⟨rfl, hb⟩
    refine ⟨rfl, ?_⟩
    have hb2 := h.below hb
    refine hb2.congr fun p hp => ?_
    unfold wrF
    rw [if_neg (fun c => absurd c.2 (by have : (⟨#[]⟩ : ByteArray).size = 0 := rfl; omega)), if_pos (by simpa [wzN] using hp)]
  · refine (hI.writeOk hf a s' s (by omega) ha).mono ?_
    rintro e w' ⟨rfl, hN, hT⟩
    refine ⟨rfl, ?_⟩
    rw [if_neg h0]
    unfold wzN
    rw [if_neg h0]
    exact h.of_now hm hN hT fun p _ => wrF_lt h.by8 _ _ _
end
theorem fl_made1 (v : Value) (n : Nat) : madeCells #[v] n = va n fun _ => v := by
  refine va_ext (size_madeCells _ _) fun i hi => ?_
  unfold madeCells
  simp [hi, Nat.mod_one]
theorem make_zeros (n : Nat) (hn : n ≤ 140737488355328) (w : World) : (Instr.makeSlice 100 (.int .i64 (n : Int)) (.int .i64 (n : Int))).run Tryz.prog w = .ok (.slice (some ⟨w.heap.size, 0, none⟩) n n) (w.alloc (.cells (va n (iv .u8 fun _ => 0)) 5)) := by
  obtain ⟨i0, hi, hz0, hz1, hz2⟩ := info_parts infoB8
  have := run_make (P := Tryz.prog) w 100 5 i0 (.int .u8 0) Tryz.underlying100 hi hz0 .i64 .i64 (n : Int) (n : Int) (by omega) (Int.le_refl _) (by rw [hz2]; omega) (by omega)
  rw [hz1] at this
  simp only [Int.toNat_natCast, Value.cells, fl_made1, Nat.mul_one] at this
  exact this
set_option maxRecDepth 100000 in
theorem zeros_some (n : Nat) (h : 1 ≤ n) (hn : n ≤ 140737488355328) (w : World) : Calls Tryz.prog 15 #[.int .i64 (n : Int)] w fun e w' => e = .returned (.string (strN (fun _ => 0) n)) ∧ Below w.heap.size w w' := by
  have t1 : ¬ ((n : Int) ≤ 0) := by omega
  have hmk := make_zeros n hn w
  have b0 := Blk.new w 5 (va n (iv .u8 fun _ => 0))
  have hb := below_new1 w (Obj.cells (va n (iv IntKind.u8 fun _ => 0)) 5)
  have hc := run_bytes_text (P := Tryz.prog) (w.alloc (Obj.cells (va n (iv IntKind.u8 fun _ => 0)) 5)) 100 5 9 Tryz.underlying100 Tryz.underlying5 Tryz.underlying9 b0 0 n n (by omega)
  clear b0 h
  go_enter Tryz.func15, Tryz.ntmps15
  go_wp2_with fail
  go_ret
  exact ⟨rfl, hb⟩
end Go.Proofs.YtelgceaembmenaaGreat

namespace Go.Proofs.YtelgceaembmenaaGreat
open Go Go.RowKit
set_option linter.unusedVariables false
section
variable {Z : Nat → Bool}
theorem ho_yes (p : Nat) (h : Z p = true) : hoL Z (p + 1) = withP (hoL Z p) p := by
  show (if Z p = true then _ else _) = _
  rw [if_pos h]
theorem ho_no (p : Nat) (h : Z p = false) : hoL Z (p + 1) = hoL Z p := by
  show (if Z p = true then _ else _) = _
  rw [if_neg (by rw [h]; decide)]
/-- the last stretch does not end right ahead of a place -/
def NeK (Z : Nat → Bool) (i : Nat) : Prop := ∀ l a b, hoL Z i = l ++ [(a, b)] → b + 1 ≠ i
theorem ne_no (i : Nat) (h : Z i = false) : NeK Z (i + 1) := fun l a b e => by
  rw [ho_no i h] at e
  have := ho_le Z i (a, b) (by rw [e]; simp)
  have h2 : b < i := this
  omega
theorem ne_zero : NeK Z 0 := fun l a b e => by
  have := congrArg List.length e
  simp [hoL] at this
theorem ho_pre (i : Nat) (h : Z i = false) : ∀ j, i + 1 ≤ j → ∃ m, hoL Z j = hoL Z i ++ m := by
  intro j hj
  induction j with
  | zero => omega
  | succ j ih =>
    by_cases hij : j = i
    · subst hij
      exact ⟨[], by rw [ho_no j h, List.append_nil]⟩
    · obtain ⟨m, hm⟩ := ih (by omega)
      cases hz : Z j with
      | false => exact ⟨m, by rw [ho_no j hz]; exact hm⟩
      | true =>
        rw [ho_yes j hz]
        rcases List.eq_nil_or_concat m with rfl | ⟨m0, ⟨a, b⟩, rfl⟩
        · rw [List.append_nil] at hm
          rcases List.eq_nil_or_concat (hoL Z i) with e | ⟨l0, ⟨a, b⟩, e⟩
          · rw [hm, e]
            exact ⟨[(j, j)], rfl⟩
          · rw [List.concat_eq_append] at e
            have h2 : b < i := ho_le Z i (a, b) (by rw [e]; simp)
            rw [hm, e, withP_no l0 a b j (by omega)]
            exact ⟨[(j, j)], rfl⟩
        · rw [List.concat_eq_append, ← List.append_assoc] at hm
          rw [hm]
          by_cases hb : b + 1 = j
          · rw [withP_yes _ _ _ _ hb]
            exact ⟨m0 ++ [(a, j)], by rw [List.append_assoc]⟩
          · rw [withP_no _ _ _ _ hb]
            exact ⟨m0 ++ [(a, b)] ++ [(j, j)], by simp [List.append_assoc]⟩
theorem ho_run (f : Nat) (hn : NeK Z f) : ∀ e, f ≤ e → (∀ q, f ≤ q → q ≤ e → Z q = true) → hoL Z (e + 1) = hoL Z f ++ [(f, e)] := by
  intro e he
  induction e with
  | zero =>
    intro hq
    obtain rfl : f = 0 := by omega
    rw [ho_yes 0 (hq 0 (Nat.le_refl _) (Nat.le_refl _))]
    rfl
  | succ e ih =>
    intro hq
    rw [ho_yes (e + 1) (hq (e + 1) he (Nat.le_refl _))]
    by_cases hf : f = e + 1
    · subst hf
      rcases List.eq_nil_or_concat (hoL Z (e + 1)) with h0 | ⟨l0, ⟨a, b⟩, h0⟩
      · rw [h0]; rfl
      · rw [List.concat_eq_append] at h0
        rw [h0, withP_no l0 a b (e + 1) (hn l0 a b h0)]
    · rw [ih (by omega) (fun q h1 h2 => hq q h1 (by omega)), withP_yes _ _ _ _ rfl]
/-- how far a stretch goes -/
theorem ho_far (P f : Nat) (hf : f < P) (hz : Z f = true) : ∃ e, f ≤ e ∧ e < P ∧ (∀ q, f ≤ q → q ≤ e → Z q = true) ∧ (e + 1 = P ∨ Z (e + 1) = false) := by
  obtain ⟨d, hd⟩ : ∃ d, P = f + 1 + d := ⟨P - (f + 1), by omega⟩
  induction d generalizing f with
  | zero => exact ⟨f, Nat.le_refl _, hf, fun q h1 h2 => (show f = q by omega) ▸ hz, .inl (by omega)⟩
  | succ d ih =>
    cases h1 : Z (f + 1) with
    | false => exact ⟨f, Nat.le_refl _, hf, fun q h2 h3 => (show f = q by omega) ▸ hz, .inr h1⟩
    | true =>
      obtain ⟨e, g1, g2, g3, g4⟩ := ih (f + 1) (by omega) h1 (by omega)
      refine ⟨e, by omega, g2, fun q h2 h3 => ?_, g4⟩
      by_cases c : q = f
      · rw [c]; exact hz
      · exact g3 q (by omega) h3
/-- the whole list, told at a stretch's beginning -/
theorem ho_split (P f e : Nat) (hn : NeK Z f) (h1 : f ≤ e) (h2 : e < P) (h3 : ∀ q, f ≤ q → q ≤ e → Z q = true) (h4 : e + 1 = P ∨ Z (e + 1) = false) : ∃ m, hoL Z P = hoL Z f ++ (f, e) :: m := by
  have hr := ho_run f hn e h1 h3
  rcases h4 with h4 | h4
  · rw [← h4, hr]
    exact ⟨[], rfl⟩
  · by_cases c : e + 1 = P
    · rw [← c, hr]
      exact ⟨[], rfl⟩
    · obtain ⟨m, hm⟩ := ho_pre (e + 1) h4 P (by omega)
      rw [hm, hr]
      exact ⟨m, by simp⟩
end
/-- is a leaf of a text zeros? -/
def zeS (s : ByteArray) (q : Nat) : Bool := decide (bkSame (fun i => tbyte s (256 * q + i)) fun _ => 0)
theorem ze_text {H : Nat → Hd} {D : Nat → Nat → Nat → Nat} {n st : Nat} {s : ByteArray} {G : Nat → Nat} (hf : Fi H D n s.size st G) (hG : ∀ p, p < s.size → G p = tbyte s p) (q : Nat) : zeB D n q = zeS s q := by
  unfold zeB zeS
  refine decide_eq_decide.2 ?_
  unfold bkSame
  refine forall_congr' fun i => forall_congr' fun hi => ?_
  rw [hf.bs q i hi]
  by_cases c : 256 * q + i < s.size
  · rw [if_pos c, hG _ c]
  · rw [if_neg c]
    show 0 = 0 ↔ tbyte s (256 * q + i) = 0
    rw [tbyte_out s (256 * q + i) (by omega)]
theorem fk_text {a b : ByteArray} (h : a.toList = b.toList) : a = b := by
  have h1 : a.data.toList = b.data.toList := by rw [← Lib.toList_data a, ← Lib.toList_data b]; exact h
  have h2 : a.data = b.data := Array.toList_inj.1 h1
  cases a; cases b; simp at h2; rw [h2]
/-- the texts that are held against each other -/
theorem ze_eq (s : ByteArray) (q : Nat) (hq : 256 * q < s.size) : ((prT s (256 * q) 256).toList == (strN (fun _ => 0) (prT s (256 * q) 256).size).toList) = zeS s q := by
  have hz : (prT s (256 * q) 256).size = min 256 (s.size - 256 * q) := by unfold prT; rw [strN_size]; rfl
  have hb : ∀ i, i < (prT s (256 * q) 256).size → tbyte (prT s (256 * q) 256) i = tbyte s (256 * q + i) := fun i hi => by
    unfold prT at hi ⊢
    rw [strN_size] at hi
    exact strN_at _ _ _ hi (tbyte_lt _ _)
  by_cases h : ∀ i, i < 256 → tbyte s (256 * q + i) = 0
  · have e : prT s (256 * q) 256 = strN (fun _ => 0) (prT s (256 * q) 256).size := text_ext (strN_size _ _).symm fun i hi => by
      rw [hb i hi, h i (by omega), strN_at _ _ _ hi (by decide)]
    have e2 : zeS s q = true := decide_eq_true (p := bkSame _ _) h
    rw [← e, e2]
    exact beq_self_eq_true _
  · have e2 : zeS s q = false := decide_eq_false (p := bkSame _ _) h
    rw [e2, beq_eq_false_iff_ne]
    intro hl
    apply h
    intro i hi
    by_cases c : 256 * q + i < s.size
    · have e3 : prT s (256 * q) 256 = strN (fun _ => 0) (prT s (256 * q) 256).size := fk_text hl
      have h1 := hb i (by omega)
      rw [← h1, e3, strN_at _ _ _ (by omega) (by decide)]
    · exact tbyte_out s _ (by omega)
end Go.Proofs.YtelgceaembmenaaGreat
