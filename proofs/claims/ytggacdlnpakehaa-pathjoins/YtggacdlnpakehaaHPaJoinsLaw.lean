/- The walk of the statement on Join, Relative and Common. -/
import Derived.Test.YtggacdlnpakehaaHPaShelf3
import Derived.Laws.MakeOwn
import Derived.Laws.CopyOwn
import Derived.Test.YtggacdlnpakehaaHRowf
import Derived.Laws.AppendOwnNone
import Derived.Test.YtggacdlnpakehaaHPaParse2

namespace Go.Proofs.Ytggacdlnpakehaa
open Go Go.RowKit Go.Shelf
set_option linter.unusedVariables false
set_option linter.unusedSimpArgs false
/-- n texts, and empty ones behind them -/
def rpC (x : ByteArray) (k n : Nat) : List Value := List.replicate n (.string x) ++ List.replicate (k - n) (.string ⟨#[]⟩)
theorem rpC_len (x : ByteArray) {k n : Nat} (h : n ≤ k) : (rpC x k n).length = k := by unfold rpC; simp; omega
theorem rpC_put (x : ByteArray) {k n c : Nat} (h : n + c ≤ k) : (rpC x k n).take n ++ (List.replicate c (Value.string x) ++ (rpC x k n).drop (n + c)) = rpC x k (n + c) := by
  unfold rpC
  rw [List.take_append_of_le_length (by simp), List.take_of_length_le (by simp), List.drop_append]
  simp [Nat.sub_sub]
  rw [← List.append_assoc, List.replicate_append_replicate]
theorem rpC_at (x : ByteArray) {k n j : Nat} (h : j < n) : (rpC x k n)[j]? = some (.string x) := by
  unfold rpC
  rw [List.getElem?_append_left (by simpa using h)]
  simp [h]
theorem make_strs (k : Nat) (hk : k ≤ 32) (w : World) : (Instr.makeSlice 31 (.int .i64 (k : Int)) (.int .i64 (k : Int))).run Try.prog w = .ok (.slice (some ⟨w.heap.size, 0, none⟩) k k) (w.alloc (.cells (rpC ⟨#[]⟩ k 0).toArray 9)) := by
  obtain ⟨i0, hi, hz0, hz1, hz2⟩ := info_parts infoStr
  have := run_make (P := Try.prog) w 31 9 i0 (.string ⟨#[]⟩) Try.underlying31 hi hz0 .i64 .i64 (k : Int) (k : Int) (by omega) (Int.le_refl _) (by rw [hz2]; omega) (by omega)
  rw [hz1] at this
  rw [show ((k : Int)).toNat = k by omega] at this
  have e : madeCells #[Value.string ⟨#[]⟩] k = (rpC ⟨#[]⟩ k 0).toArray := by
    apply Array.ext'
    unfold madeCells rpC
    simp [Nat.mod_one]
    rw [List.map_const', List.length_range]
  simp only [Value.cells, e, Nat.mul_one] at this
  exact this
set_option maxRecDepth 100000 in
set_option maxHeartbeats 4000000 in
theorem repeat_one (x : ByteArray) {g o c k : Nat} (hk : k ≤ 32) (w : World) (hg : g < w.heap.size) (hc : w.cell? ⟨g, o, none⟩ = some (.string x)) :
    Calls Try.prog 18 #[.slice (some ⟨g, o, none⟩) 1 c, .int .i64 (k : Int)] w fun e w' => e = .returned (.slice (some ⟨w.heap.size, 0, none⟩) k k) ∧ Blk w' w.heap.size 9 (rpC x k k).toArray ∧ Below w.heap.size w w' := by
  have HMul : Hid (∀ w : World, Calls Try.prog 28 #[.int .u64 1, .int .u64 (k : Int)] w fun e w' => e = .returned (.tuple #[.int .u64 0, .int .u64 (k : Int)]) ∧ w' = w) := fun w => by
    have := Any.bits_Mul Try.mulA 1 k (by omega) (by omega) w
    rw [Nat.one_mul, Nat.div_eq_of_lt (by omega), Nat.mod_eq_of_lt (by omega)] at this
    exact this
  have hmk := make_strs k hk
  have hk0 : ¬ ((k : Int) < 0) := by omega
  have hw1 : IntKind.u64.wrap (k : Int) = (k : Int) := by rw [IntKind.wrap_u64]; omega
  have hw2 : IntKind.i64.wrap (k : Int) = (k : Int) := by rw [IntKind.wrap_i64]; omega
  have hkm : ¬ ((9223372036854775807 : Int) < (k : Int)) := by omega
  go_enter Try.func18, Try.ntmps18
  go_wp2_with fail
  refine (HMul.out _).mono ?_
  rintro e w9 ⟨rfl, hw9⟩
  subst w9
  obtain ⟨W0, hW0⟩ : ∃ W0, w.alloc (.cells (rpC ⟨#[]⟩ k 0).toArray 9) = W0 := ⟨_, rfl⟩
  have kb0 : Blk W0 w.heap.size 9 (rpC x k 0).toArray := by rw [← hW0]; exact Blk.new w _ _
  have b0 : Below w.heap.size w W0 := by rw [← hW0]; exact (Below.refl _ w).alloc (Nat.le_refl _) _
  have hc0 : W0.cell? ⟨g, o, none⟩ = some (.string x) := (b0.cell (p := ⟨g, o, none⟩) hg).trans hc
  obtain ⟨f, hf⟩ : ∃ f, min 1 k = f := ⟨_, rfl⟩
  have hfk : 0 + f ≤ k := by omega
  have e1 := rpC_put x hfk
  have kb1 : Blk (W0.setRow w.heap.size ((rpC x k 0).toArray.toList.take 0 ++ (List.replicate f (Value.string x) ++ (rpC x k 0).toArray.toList.drop (0 + (List.replicate f (Value.string x)).length))).toArray) w.heap.size 9 (rpC x k f).toArray := by
    rw [List.length_replicate, e1, Nat.zero_add]
    exact setRow_heap W0 _ _ _ _ _ kb0
  have b1 := below_setRow b0 (Nat.le_refl _) ((rpC x k 0).toArray.toList.take 0 ++ (List.replicate f (Value.string x) ++ (rpC x k 0).toArray.toList.drop (0 + (List.replicate f (Value.string x)).length))).toArray
  have HI : Hid (_ ∧ _) := ⟨kb1, b1⟩
  have hgk : 0 < k → 0 < f := by omega
  clear kb1 b1 e1
  have hsz : (Try.prog.info? 9).map (·.size) = some 1 := by kernel_rfl
  have hcn : (List.replicate f (Value.string x)).length = Nat.min 1 k := by rw [List.length_replicate]; exact hf.symm
  have hsrc : ∀ j v, (List.replicate f (Value.string x))[j]? = some v → W0.cell? ((⟨g, o, none⟩ : Addr).add j) = some v := fun j v hv => by
    rw [List.getElem?_replicate] at hv
    split at hv
    · injection hv with hv
      subst hv
      have : j = 0 := by omega
      subst this
      exact hc0
    · cases hv
  have hfit : 0 + (List.replicate f (Value.string x)).length ≤ (rpC x k 0).toArray.size := by
    rw [List.length_replicate]
    show _ ≤ (rpC x k 0).length
    rw [rpC_len x (by omega)]
    exact hfk
  have hone : ∀ v ∈ List.replicate f (Value.string x), v.oneCell' = true := fun v hv => by rw [List.eq_of_mem_replicate hv]; rfl
  subst hW0
  go_wp2_with (first
    | (refine wpList_copy_own rfl _ _ 31 31 rfl 9 Try.underlying31 hsz w.heap.size 0 k k ⟨g, o, none⟩ 1 c (by rfl) (by rfl) (rpC x k 0).toArray 9 kb0 (List.replicate f (Value.string x)) hcn hsrc hfit hone ?_)
    | fail)
  clear kb0 b0 hc0 hf hcn hsrc hfit hone
  go_loopw [8] (fun v wr => Hid (∃ n : Nat, n ≤ k ∧ (0 < k → 0 < n) ∧ v = .int .i64 (n : Int) ∧ Blk wr w.heap.size 9 (rpC x k n).toArray ∧ Below w.heap.size w wr)) (fun v wr => k - (intOf v).toNat)
  case atStart =>
    refine ⟨f, by omega, hgk, ?_, ?_, ?_⟩
    · simp
    · first | exact HI.out.1 | simpa using HI.out.1
    · first | exact HI.out.2 | simpa using HI.out.2
  case round =>
    obtain ⟨n, hn, hn0, rfl, kb, hb⟩ := Hid.out hrel
    clear hrel HI
    by_cases hi : n < k
    · have hiz : (n : Int) < (k : Int) := by omega
      have hnz : (0 : Int) ≤ (n : Int) := by omega
      have hnk : (n : Int) ≤ (k : Int) := by omega
      have hnp : 0 < n := hn0 (by omega)
      obtain ⟨q, hq⟩ : ∃ q, min n (k - n) = q := ⟨_, rfl⟩
      have hqk : n + q ≤ k := by omega
      have hq0 : 0 < q := by omega
      have e1 := rpC_put x hqk
      have kb1 : Blk (wr.setRow w.heap.size ((rpC x k n).toArray.toList.take n ++ (List.replicate q (Value.string x) ++ (rpC x k n).toArray.toList.drop (n + (List.replicate q (Value.string x)).length))).toArray) w.heap.size 9 (rpC x k (n + q)).toArray := by
        rw [List.length_replicate, e1]
        exact setRow_heap wr _ _ _ _ _ kb
      have b1 := below_setRow hb (Nat.le_refl _) ((rpC x k n).toArray.toList.take n ++ (List.replicate q (Value.string x) ++ (rpC x k n).toArray.toList.drop (n + (List.replicate q (Value.string x)).length))).toArray
      have HJ : Hid (_ ∧ _) := ⟨kb1, b1⟩
      clear kb1 b1 e1
      have hcn : (List.replicate q (Value.string x)).length = Nat.min n (k - n) := by rw [List.length_replicate]; exact hq.symm
      have hsrc : ∀ j v, (List.replicate q (Value.string x))[j]? = some v → wr.cell? ((⟨w.heap.size, 0, none⟩ : Addr).add j) = some v := fun j v hv => by
        rw [List.getElem?_replicate] at hv
        split at hv
        · injection hv with hv
          subst hv
          have h1 := kb.cell j
          have h2 : (⟨w.heap.size, 0, none⟩ : Addr).add j = ⟨w.heap.size, j, none⟩ := by simp [Addr.add]; intro h; exact h.symm
          rw [h2, h1]
          have h3 := rpC_at x (k := k) (n := n) (j := j) (by omega)
          simpa using h3
        · cases hv
      have hfit : n + (List.replicate q (Value.string x)).length ≤ (rpC x k n).toArray.size := by
        rw [List.length_replicate]
        show _ ≤ (rpC x k n).length
        rw [rpC_len x hn]
        exact hqk
      have hone : ∀ v ∈ List.replicate q (Value.string x), v.oneCell' = true := fun v hv => by rw [List.eq_of_mem_replicate hv]; rfl
      have hrun := run_copy_row (P := Try.prog) wr.drew 31 31 3 9 w.heap.size n (k - n) (k - n) ⟨w.heap.size, 0, none⟩ n k (rpC x k n).toArray 9 (List.replicate q (Value.string x)) Try.underlying31 hsz kb hcn hsrc hfit hone
      clear kb hb hcn hsrc hfit hone
      rw [List.length_replicate] at hrun
      obtain ⟨kj, bj⟩ := HJ.out
      rw [List.length_replicate] at kj bj
      have HJ2 : Hid (_ ∧ _) := ⟨kj.drew, bj.drew⟩
      clear HJ kj bj
      have hnq : IntKind.i64.wrap ((n : Int) + (q : Int)) = ((n + q : Nat) : Int) := by rw [IntKind.wrap_i64]; omega
      go_wp2_with fail
      go_region
      go_wp2_with fail
      go_roundw
      case rel =>
        refine ⟨n + q, hqk, fun _ => by omega, ?_, ?_, ?_⟩
        · first | rfl | go_num | simp
        · first | exact HJ2.out.1 | simpa using HJ2.out.1
        · first | exact HJ2.out.2 | simpa using HJ2.out.2
      case measure => simp [intOf]; omega
    · obtain rfl : n = k := by omega
      have hiz : ¬ (n : Int) < (n : Int) := by omega
      have HJ : Hid (_ ∧ _) := ⟨kb, hb⟩
      clear kb hb
      go_wp2_with fail
      go_ret
      exact ⟨rfl, HJ.out.1, HJ.out.2⟩
end Go.Proofs.Ytggacdlnpakehaa

namespace Go.Proofs.Ytggacdlnpakehaa
open Go Go.RowKit Go.Shelf
set_option linter.unusedVariables false
set_option linter.unusedSimpArgs false
/-- a block of texts that is full, as an own row -/
theorem own_full {w : World} {B g : Nat} {L : List ByteArray} (hB : B ≤ g) (hk : Blk w g 9 (L.map Value.string).toArray) (hl : L.length ≤ 1000) : w.ownsRow B 9 1 (.slice (some ⟨g, 0, none⟩) L.length L.length) L.length (L.map Value.string) :=
  ⟨by simp, .inr ⟨g, L.length, (L.map Value.string).toArray, rfl, hB, hk, Nat.le_refl _, by unfold maxLen; omega, by simp, by rw [Nat.mul_one, List.take_of_length_le (by simp)]⟩⟩
theorem rpC_full (x : ByteArray) (k : Nat) : rpC x k k = (List.replicate k x).map Value.string := by
  unfold rpC
  simp
theorem wayL_len (N M : List ByteArray) : (wayL N M).length = (N.length - cmN N M) + (M.length - cmN N M) := by
  unfold wayL
  simp
theorem way_jn {N M : List ByteArray} (hN : GoodN N) (hM : GoodN M) : (Lib.join ((wayL N M).map (·.data.toList)) [47]).length ≤ 1000000 := by
  by_cases h : wayL N M = []
  · rw [h]; decide
  · have h1 : (frmL (wayL N M)).length ≤ 3000 := by
      rw [frm_acc h]
      unfold wayL
      rw [acc_app, List.length_append, rep_len]
      have hgd : GoodN (M.drop (cmN N M)) := ⟨by have := hM.1; rw [List.length_drop]; omega, fun x hx => hM.2 x (List.mem_of_mem_drop hx)⟩
      have := good_len hgd
      have := hN.1
      omega
    unfold frmL at h1
    rw [List.length_cons] at h1
    omega
theorem IsN.dropA {w : World} {g : Nat} {N : List ByteArray} {o : Nat} (h : IsN w (some ⟨g, o, none⟩) N) (k : Nat) : IsN w (some ⟨g, o + k, none⟩) (N.drop k) := by
  rcases h with rfl | ⟨g', o', e, hg, hc⟩
  · exact .inl (by simp)
  · cases e
    refine .inr ⟨g, o + k, rfl, hg, fun j x hj => ?_⟩
    rw [List.getElem?_drop] at hj
    rw [Nat.add_assoc]
    exact hc _ _ hj
/-- append(own, names...) -/
theorem wpList_append_strs {P : Program} {ops : Array Oper} {rest : List Oper} {o : Oper} {a : Act} {w : World} {Q : Exit → Act → World → Prop} (hgd : o.guard = none) (s x : Operand) (t : TypeId)
    (ho : o.op = .call { callee := .builtin .append, args := #[s, x], argTypes := #[t, t] }) (B : Nat) (e : TypeId) (i : TypeInfo) (z : Value) (ht : P.underlying t = some (.slice e)) (hi : P.info? e = some i) (hz : i.zero = some z) (hsize : i.size = 1) (hby : i.bytes = 16) (hzs : z.cells.size = 1)
    (v : Value) (A : List ByteArray) (hs : a.eval s = v) (hown : w.ownsRow B e 1 v A.length (A.map Value.string)) (a1 : Option Addr) (c m : Nat) (N : List ByteArray) (hm : m = N.length) (hx : a.eval x = .slice a1 m c) (hA : IsN w a1 N) (hN : a1 = none → N.length = 0 ∧ c = 0) (hn : A.length + N.length ≤ 1000) (hbase : B ≤ w.heap.size)
    (h : ∀ v' w', w'.ownsRow B e 1 v' (A ++ N).length ((A ++ N).map Value.string) → Below B w w' → wpList P ops Q rest (a.put o.dst v') w') : wpList P ops Q (o :: rest) a w := by
  subst hm
  cases a1 with
  | none =>
    obtain ⟨h0, rfl⟩ := hN rfl
    have h0' : N = [] := List.length_eq_zero_iff.1 h0
    subst h0'
    exact wpList_append_own_none hgd s x t ho B e i 1 ht hi v A.length (A.map Value.string) hs hown hx (h v w (by rw [List.append_nil]; exact hown) (Below.refl _ _))
  | some ad =>
    have hv := hown.lt
    refine wpList_append_own w hgd s x t ho B e i z 1 16 ht hi hz hsize hby hzs (by decide) v A.length (A.map Value.string) hs hown ad N.length c (N.map Value.string) hx (by simp) (fun j u hu => ?_) (fun u hu => ?_) (by unfold maxLen; omega) (by omega) hbase fun v' w' h1 h2 _ => ?_
    · rw [List.getElem?_map] at hu
      cases hxj : N[j]? with
      | none => rw [hxj] at hu; cases hu
      | some y =>
        rw [hxj] at hu
        injection hu with hu
        rcases hA with rfl | ⟨g, o, e1, _, hc⟩
        · simp at hxj
        · injection e1 with e2
          subst e2
          rw [Addr.add_mid, ← hu]
          exact hc j y hxj
    · obtain ⟨j, _, rfl⟩ := List.mem_map.1 hu
      rfl
    · rw [← List.length_append, ← List.map_append] at h1
      exact h v' w' h1 ((Below.refl _ _).grown h2 hbase (fun k hk => (hv k hk).1))
set_option maxRecDepth 100000 in
set_option maxHeartbeats 4000000 in
theorem prel_ok (s t : ByteArray) {N M : List ByteArray} {d d2 : Bool} {i i2 : Nat} (hp : prs s.data.toList = (N, d, i, 0)) (hp2 : prs t.data.toList = (M, d2, i2, 0)) (w : World) : Calls Try.prog 7 #[.string s, .string t] w fun e w' => e = .returned (.tuple #[.string (wayS N M), .int .i64 0]) ∧ Below w.heap.size w w' := by
  have hG : GoodN N := by have := good_prs s.data.toList; rwa [hp] at this
  have hG2 : GoodN M := by have := good_prs t.data.toList; rwa [hp2] at this
  have HX := both_ok s t hp hp2
  obtain ⟨k, hk⟩ : ∃ k, cmN N M = k := ⟨_, rfl⟩
  have hkl := cmN_le N M
  rw [hk] at hkl
  have HK : Hid (cmN N M = k) := hk
  have HG : Hid (GoodN N ∧ GoodN M) := ⟨hG, hG2⟩
  have hNl := hG.1
  have hMl := hG2.1
  obtain ⟨r, hr⟩ : ∃ r, wayS N M = r := ⟨_, rfl⟩
  have HR : Hid (wayS N M = r) := hr
  rw [hr]
  clear hk hG hG2 hp hp2 hr
  obtain ⟨i0, hi0, hz0, hz1, hz2⟩ := info_parts infoStr
  go_enter Try.func7, Try.ntmps7
  go_wp2_with fail
  refine (HX _).mono ?_
  rintro e w1 ⟨a, c, b, c2, rfl, ho, ho2, hb⟩
  have hcap2 := own_cap ho2
  have HS : Hid (Calls Try.prog 17 #[.slice a N.length c, .slice b M.length c2] w1 fun e w' => e = .returned (.int .i64 (k : Int)) ∧ ∃ n, w' = w1.drewN n) := by
    have := shared_any (c := c) (d := c2) (own_isN ho) (own_isN ho2) (by omega) (by omega)
    rwa [HK.out] at this
  have HM : Hid (IsN w1 b M) := own_isN ho2
  have HBN : Hid ((b = none → M.length = 0 ∧ c2 = 0) ∧ (b = none ∨ ∃ g, b = some ⟨g, 0, none⟩)) := by
    rcases ho2.2 with ⟨hv, hn⟩ | ⟨g, cap, cur, hv, _⟩
    · injection hv with h1 h2 h3
      exact ⟨fun _ => ⟨hn, h3⟩, .inl h1⟩
    · cases hv
      exact ⟨fun h => by simp at h, .inr ⟨g, rfl⟩⟩
  have HB : Hid (Below w.heap.size w w1) := hb
  clear ho ho2 hb HX
  go_wp2_with fail
  refine HS.out.mono ?_
  rintro e w2 ⟨rfl, n, rfl⟩
  clear HS
  have HB2 : Hid (Below w.heap.size w (w1.drewN n)) := bdrewN HB.out n
  have HM2 : Hid (IsN (w1.drewN n) b M) := HM.out.dN n
  generalize w1.drewN n = W at *
  clear HB HM
  obtain ⟨nn, hn⟩ : ∃ n, N.length = n := ⟨_, rfl⟩
  obtain ⟨m, hm⟩ : ∃ m, M.length = m := ⟨_, rfl⟩
  have HL : Hid (N.length = nn ∧ M.length = m) := ⟨hn, hm⟩
  rw [hn] at hkl hNl ⊢
  rw [hm] at hkl hMl hcap2 HBN ⊢
  clear hn hm
  have hsub : IntKind.i64.wrap ((nn : Int) - (k : Int)) = ((nn - k : Nat) : Int) := by rw [IntKind.wrap_i64]; omega
  have hk0 : (0 : Int) ≤ (k : Int) := by omega
  have hkm : (k : Int) ≤ (m : Int) := by omega
  have hmc : (m : Int) ≤ (c2 : Int) := by omega
  -- the tail of the second
  rcases HBN.out.2 with hbn | ⟨g, hbg⟩
  · obtain ⟨hm0, hc0⟩ := HBN.out.1 hbn
    subst hbn
    subst hc0
    subst hm0
    obtain rfl : k = 0 := by omega
    have hsub0 : IntKind.i64.wrap (nn : Int) = (nn : Int) := by rw [IntKind.wrap_i64]; omega
    go_wp2_with fail
    refine wp_region_partsS (fun U => Hid True) [([1, 3, 6, 7], 2, true), ([], 4, true), ([], 8, true), ([], 0, false), ([], 5, false), ([], 9, false)] [10] [] (by kernel_rfl) (by kernel_rfl) (show Hid True from trivial) (partsI_yield ?_)
    simp only [List.cons_append, List.nil_append, List.append_nil, List.filterMap_cons, List.filterMap_nil, List.getElem?_toArray, List.getElem?_cons_zero, List.getElem?_cons_succ]
    go_wp2_with fail
    first
      | refine ⟨rfl, _, .int .i64 (nn : Int), rfl, Or.inl ⟨by rfl, fun U hU => by first | (go_simp; done) | (go_simp; exact ho3)⟩, partsI_yield ?_⟩
      | refine ⟨rfl, .int .i64 (nn : Int), Or.inl ⟨by rfl, fun U hU => by first | (go_simp; done) | (go_simp; exact ho3)⟩, partsI_yield ?_⟩
    simp only [Act.put, List.setIfInBounds_toArray, List.set_cons_zero, List.set_cons_succ]
    simp only [List.cons_append, List.nil_append, List.append_nil, List.filterMap_cons, List.filterMap_nil, List.getElem?_toArray, List.getElem?_cons_zero, List.getElem?_cons_succ]
    go_wp2_with fail
    first
      | refine ⟨rfl, _, .int .i64 ((nn : Nat) : Int), rfl, Or.inl ⟨by rfl, fun U hU => by first | (go_simp; done) | (go_simp; exact ho3)⟩, partsI_yield ?_⟩
      | refine ⟨rfl, .int .i64 ((nn : Nat) : Int), Or.inl ⟨by rfl, fun U hU => by first | (go_simp; done) | (go_simp; exact ho3)⟩, partsI_yield ?_⟩
    simp only [Act.put, List.setIfInBounds_toArray, List.set_cons_zero, List.set_cons_succ]
    simp only [List.cons_append, List.nil_append, List.append_nil, List.filterMap_cons, List.filterMap_nil, List.getElem?_toArray, List.getElem?_cons_zero, List.getElem?_cons_succ]
    go_wp2_with fail
    first
      | refine ⟨rfl, _, .slice none 0 0, rfl, Or.inl ⟨by rfl, fun U hU => by first | (go_simp; done) | (go_simp; exact ho3)⟩, partsI_force ?_⟩
      | refine ⟨rfl, .slice none 0 0, Or.inl ⟨by rfl, fun U hU => by first | (go_simp; done) | (go_simp; exact ho3)⟩, partsI_force ?_⟩
    simp only [Act.put, List.setIfInBounds_toArray, List.set_cons_zero, List.set_cons_succ]
    simp only [List.cons_append, List.nil_append, List.append_nil, List.filterMap_cons, List.filterMap_nil, List.getElem?_toArray, List.getElem?_cons_zero, List.getElem?_cons_succ]
    go_wp2_with fail
    refine ⟨rfl, (show Hid True from trivial), partsI_force ?_⟩
    simp only [List.cons_append, List.nil_append, List.append_nil, List.filterMap_cons, List.filterMap_nil, List.getElem?_toArray, List.getElem?_cons_zero, List.getElem?_cons_succ]
    obtain ⟨W1, hW1⟩ : ∃ W1, W1 = (W.alloc (.cells #[.string ⟨#[46, 46]⟩] 9)).drew := ⟨_, rfl⟩
    have kd : Blk W1 W.heap.size 9 #[.string ⟨#[46, 46]⟩] := by rw [hW1]; exact (Blk.new W 9 _).drew
    have bd : Below W.heap.size W W1 := by rw [hW1]; exact ((Below.refl _ W).alloc (Nat.le_refl _) _).drew
    have HRp : Hid (Calls Try.prog 18 #[.slice (some ⟨W.heap.size, 0, none⟩) 1 1, .int .i64 ((nn : Nat) : Int)] W1 fun e w' => e = .returned (.slice (some ⟨W1.heap.size, 0, none⟩) (nn) (nn)) ∧ Blk w' W1.heap.size 9 (rpC ⟨#[46, 46]⟩ (nn) (nn)).toArray ∧ Below W1.heap.size W1 w') := repeat_one ⟨#[46, 46]⟩ (by omega) W1 kd.lt (kd.cell 0)
    have HD : Hid (_ ∧ _) := ⟨kd, bd⟩
    clear kd bd
    subst hW1
    go_wp2_with fail
    refine HRp.out.mono ?_
    rintro e W2 ⟨rfl, kr, br⟩
    obtain ⟨kd, bd⟩ := HD.out
    clear HD HRp
    generalize (W.alloc (.cells #[.string ⟨#[46, 46]⟩] 9)).drew = W1 at *
    go_wp2_with fail
    refine ⟨rfl, (show Hid True from trivial), partsI_force ?_⟩
    simp only [List.cons_append, List.nil_append, List.append_nil, List.filterMap_cons, List.filterMap_nil, List.getElem?_toArray, List.getElem?_cons_zero, List.getElem?_cons_succ]
    rw [rpC_full] at kr
    have hrl : (List.replicate (nn) (⟨#[46, 46]⟩ : ByteArray)).length = nn := List.length_replicate
    have HOW : Hid (W2.ownsRow W.heap.size 9 1 (.slice (some ⟨W1.heap.size, 0, none⟩) (nn) (nn)) (List.replicate (nn) (⟨#[46, 46]⟩ : ByteArray)).length ((List.replicate (nn) (⟨#[46, 46]⟩ : ByteArray)).map Value.string)) := by
      have := own_full (B := W.heap.size) bd.size kr (by rw [hrl]; omega)
      rw [hrl] at this ⊢
      exact this
    have B2 : Below W.heap.size W W2 := bd.trans (br.mono bd.size)
    have HIS : Hid (IsN W2 none (M.drop 0)) := by
      have := HM2.out.below B2
      rw [List.drop_zero]; exact this
    have HNO : Hid ((none : Option Addr) = none → (M.drop 0).length = 0 ∧ 0 = 0) := by
      exact fun _ => ⟨by rw [List.drop_zero]; exact HL.out.2, rfl⟩
    have hdl : (M.drop 0).length = 0 := by rw [List.length_drop, HL.out.2]
    have hsz2 := B2.size
    have HRP : Hid (List.replicate (nn) (⟨#[46, 46]⟩ : ByteArray) ++ M.drop 0 = wayL N M) := by
      show _ = _
      unfold wayL
      rw [HK.out, HL.out.1]
      all_goals (first | rfl | simp)
    generalize List.replicate (nn) (⟨#[46, 46]⟩ : ByteArray) = RP at *
    have HB3 : Hid (Below w.heap.size w W2) := HB2.out.trans (B2.mono HB2.out.size)
    have hsz3 := HB2.out.size
    clear kr br kd bd HM2 B2
    refine wpList_append_strs rfl _ _ 31 rfl W.heap.size 9 i0 (.string ⟨#[]⟩) Try.underlying31 hi0 hz0 hz1 hz2 rfl _ RP rfl HOW.out none 0 (0) (M.drop 0) hdl.symm rfl HIS.out HNO.out (by omega) hsz2 ?_
    intro v' W3 hown3 hb3
    have HB4 : Hid (Below w.heap.size w W3) := HB3.out.trans (hb3.mono hsz3)
    rw [HRP.out] at hown3
    obtain ⟨a4, c4, rfl⟩ := kown_slice hown3
    have hcap4 := own_cap hown3
    have HI4 : Hid (IsN W3 a4 (wayL N M)) := own_isN hown3
    clear hown3 hb3 HOW HIS HNO HRP HB3 hdl hsz2
    go_wp2_with fail
    refine ⟨rfl, (show Hid True from trivial), partsI_last ?_⟩
    simp only [List.cons_append, List.nil_append, List.append_nil, List.filterMap_cons, List.filterMap_nil, List.getElem?_toArray, List.getElem?_cons_zero, List.getElem?_cons_succ]
    go_wp2_with fail
    refine ⟨rfl, ?_⟩
    by_cases hw0 : wayL N M = []
    · have hl0 : (wayL N M).length = 0 := by rw [hw0]; rfl
      obtain rfl : r = ⟨#[46]⟩ := by rw [← HR.out]; unfold wayS; rw [if_pos hw0]
      rw [hl0]
      clear hcap4 hw0
      go_wp2_with fail
      go_ret2
      exact ⟨rfl, HB4.out⟩
    · have hlp : ¬ (wayL N M).length = 0 := by simpa using hw0
      have hwl : (wayL N M).length ≤ 64 := by rw [wayL_len, HK.out, HL.out.1, HL.out.2]; omega
      have HJ : Hid (Calls Try.prog 19 #[.slice a4 (wayL N M).length c4, .string ⟨#[47]⟩] W3 fun e w' => e = .returned (.string r) ∧ Below W3.heap.size W3 w') := by
        have h1 := join_any (c := c4) HI4.out hcap4 (by omega) (way_jn HG.out.1 HG.out.2)
        have h2 : r = bsL (Lib.join ((wayL N M).map (·.data.toList)) [47]) := by rw [← HR.out]; unfold wayS; rw [if_neg hw0]
        rw [h2]
        exact h1
      generalize (wayL N M).length = wl at *
      have hwz : ¬ (wl : Int) = 0 := by omega
      clear hcap4 hw0 HI4
      go_wp2_with fail
      refine HJ.out.mono ?_
      rintro e W4 ⟨rfl, hb5⟩
      go_wp2_with fail
      go_ret2
      exact ⟨rfl, HB4.out.trans (hb5.mono HB4.out.size)⟩
  · subst hbg
    obtain ⟨o, ho1, ho2⟩ : ∃ o, (c2 = k → o = 0) ∧ (¬ c2 = k → o = k) := ⟨if c2 = k then 0 else k, fun h => by rw [if_pos h], fun h => by rw [if_neg h]⟩
    have ho3 : (if c2 = k then some (⟨g, 0, none⟩ : Addr) else some ⟨g, k, none⟩) = some ⟨g, o, none⟩ := by
      by_cases h : c2 = k
      · rw [ho1 h, if_pos h]
      · rw [ho2 h, if_neg h]
    go_wp2_with fail
    refine wp_region_partsS (fun U => Hid True) [([1, 3, 6, 7], 2, true), ([], 4, true), ([], 8, true), ([], 0, false), ([], 5, false), ([], 9, false)] [10] [] (by kernel_rfl) (by kernel_rfl) (show Hid True from trivial) (partsI_yield ?_)
    simp only [List.cons_append, List.nil_append, List.append_nil, List.filterMap_cons, List.filterMap_nil, List.getElem?_toArray, List.getElem?_cons_zero, List.getElem?_cons_succ]
    go_wp2_with fail
    first
      | refine ⟨rfl, _, .int .i64 (nn : Int), rfl, Or.inl ⟨by rfl, fun U hU => by first | (go_simp; done) | (go_simp; exact ho3)⟩, partsI_yield ?_⟩
      | refine ⟨rfl, .int .i64 (nn : Int), Or.inl ⟨by rfl, fun U hU => by first | (go_simp; done) | (go_simp; exact ho3)⟩, partsI_yield ?_⟩
    simp only [Act.put, List.setIfInBounds_toArray, List.set_cons_zero, List.set_cons_succ]
    simp only [List.cons_append, List.nil_append, List.append_nil, List.filterMap_cons, List.filterMap_nil, List.getElem?_toArray, List.getElem?_cons_zero, List.getElem?_cons_succ]
    go_wp2_with fail
    first
      | refine ⟨rfl, _, .int .i64 ((nn - k : Nat) : Int), rfl, Or.inl ⟨by rfl, fun U hU => by first | (go_simp; done) | (go_simp; exact ho3)⟩, partsI_yield ?_⟩
      | refine ⟨rfl, .int .i64 ((nn - k : Nat) : Int), Or.inl ⟨by rfl, fun U hU => by first | (go_simp; done) | (go_simp; exact ho3)⟩, partsI_yield ?_⟩
    simp only [Act.put, List.setIfInBounds_toArray, List.set_cons_zero, List.set_cons_succ]
    simp only [List.cons_append, List.nil_append, List.append_nil, List.filterMap_cons, List.filterMap_nil, List.getElem?_toArray, List.getElem?_cons_zero, List.getElem?_cons_succ]
    go_wp2_with fail
    first
      | refine ⟨rfl, _, .slice (some ⟨g, o, none⟩) (m - k) (c2 - k), rfl, Or.inl ⟨by rfl, fun U hU => by first | (go_simp; done) | (go_simp; exact ho3)⟩, partsI_force ?_⟩
      | refine ⟨rfl, .slice (some ⟨g, o, none⟩) (m - k) (c2 - k), Or.inl ⟨by rfl, fun U hU => by first | (go_simp; done) | (go_simp; exact ho3)⟩, partsI_force ?_⟩
    simp only [Act.put, List.setIfInBounds_toArray, List.set_cons_zero, List.set_cons_succ]
    simp only [List.cons_append, List.nil_append, List.append_nil, List.filterMap_cons, List.filterMap_nil, List.getElem?_toArray, List.getElem?_cons_zero, List.getElem?_cons_succ]
    go_wp2_with fail
    refine ⟨rfl, (show Hid True from trivial), partsI_force ?_⟩
    simp only [List.cons_append, List.nil_append, List.append_nil, List.filterMap_cons, List.filterMap_nil, List.getElem?_toArray, List.getElem?_cons_zero, List.getElem?_cons_succ]
    obtain ⟨W1, hW1⟩ : ∃ W1, W1 = (W.alloc (.cells #[.string ⟨#[46, 46]⟩] 9)).drew := ⟨_, rfl⟩
    have kd : Blk W1 W.heap.size 9 #[.string ⟨#[46, 46]⟩] := by rw [hW1]; exact (Blk.new W 9 _).drew
    have bd : Below W.heap.size W W1 := by rw [hW1]; exact ((Below.refl _ W).alloc (Nat.le_refl _) _).drew
    have HRp : Hid (Calls Try.prog 18 #[.slice (some ⟨W.heap.size, 0, none⟩) 1 1, .int .i64 ((nn - k : Nat) : Int)] W1 fun e w' => e = .returned (.slice (some ⟨W1.heap.size, 0, none⟩) (nn - k) (nn - k)) ∧ Blk w' W1.heap.size 9 (rpC ⟨#[46, 46]⟩ (nn - k) (nn - k)).toArray ∧ Below W1.heap.size W1 w') := repeat_one ⟨#[46, 46]⟩ (by omega) W1 kd.lt (kd.cell 0)
    have HD : Hid (_ ∧ _) := ⟨kd, bd⟩
    clear kd bd
    subst hW1
    go_wp2_with fail
    refine HRp.out.mono ?_
    rintro e W2 ⟨rfl, kr, br⟩
    obtain ⟨kd, bd⟩ := HD.out
    clear HD HRp
    generalize (W.alloc (.cells #[.string ⟨#[46, 46]⟩] 9)).drew = W1 at *
    go_wp2_with fail
    refine ⟨rfl, (show Hid True from trivial), partsI_force ?_⟩
    simp only [List.cons_append, List.nil_append, List.append_nil, List.filterMap_cons, List.filterMap_nil, List.getElem?_toArray, List.getElem?_cons_zero, List.getElem?_cons_succ]
    rw [rpC_full] at kr
    have hrl : (List.replicate (nn - k) (⟨#[46, 46]⟩ : ByteArray)).length = nn - k := List.length_replicate
    have HOW : Hid (W2.ownsRow W.heap.size 9 1 (.slice (some ⟨W1.heap.size, 0, none⟩) (nn - k) (nn - k)) (List.replicate (nn - k) (⟨#[46, 46]⟩ : ByteArray)).length ((List.replicate (nn - k) (⟨#[46, 46]⟩ : ByteArray)).map Value.string)) := by
      have := own_full (B := W.heap.size) bd.size kr (by rw [hrl]; omega)
      rw [hrl] at this ⊢
      exact this
    have B2 : Below W.heap.size W W2 := bd.trans (br.mono bd.size)
    have HIS : Hid (IsN W2 (some ⟨g, o, none⟩) (M.drop k)) := by
      have := HM2.out.below B2
      by_cases h : c2 = k
      · exact .inl (List.drop_eq_nil_of_le (by rw [HL.out.2]; omega))
      · rw [ho2 h]
        have := this.dropA k
        rwa [Nat.zero_add] at this
    have HNO : Hid (((some ⟨g, o, none⟩) : Option Addr) = none → (M.drop k).length = 0 ∧ (c2 - k) = 0) := by
      exact fun h => by cases h
    have hdl : (M.drop k).length = m - k := by rw [List.length_drop, HL.out.2]
    have hsz2 := B2.size
    have HRP : Hid (List.replicate (nn - k) (⟨#[46, 46]⟩ : ByteArray) ++ M.drop k = wayL N M) := by
      show _ = _
      unfold wayL
      rw [HK.out, HL.out.1]
      all_goals (first | rfl | simp)
    generalize List.replicate (nn - k) (⟨#[46, 46]⟩ : ByteArray) = RP at *
    have HB3 : Hid (Below w.heap.size w W2) := HB2.out.trans (B2.mono HB2.out.size)
    have hsz3 := HB2.out.size
    clear kr br kd bd HM2 B2
    refine wpList_append_strs rfl _ _ 31 rfl W.heap.size 9 i0 (.string ⟨#[]⟩) Try.underlying31 hi0 hz0 hz1 hz2 rfl _ RP rfl HOW.out (some ⟨g, o, none⟩) (c2 - k) (m - k) (M.drop k) hdl.symm rfl HIS.out HNO.out (by omega) hsz2 ?_
    intro v' W3 hown3 hb3
    have HB4 : Hid (Below w.heap.size w W3) := HB3.out.trans (hb3.mono hsz3)
    rw [HRP.out] at hown3
    obtain ⟨a4, c4, rfl⟩ := kown_slice hown3
    have hcap4 := own_cap hown3
    have HI4 : Hid (IsN W3 a4 (wayL N M)) := own_isN hown3
    clear hown3 hb3 HOW HIS HNO HRP HB3 hdl hsz2
    go_wp2_with fail
    refine ⟨rfl, (show Hid True from trivial), partsI_last ?_⟩
    simp only [List.cons_append, List.nil_append, List.append_nil, List.filterMap_cons, List.filterMap_nil, List.getElem?_toArray, List.getElem?_cons_zero, List.getElem?_cons_succ]
    go_wp2_with fail
    refine ⟨rfl, ?_⟩
    by_cases hw0 : wayL N M = []
    · have hl0 : (wayL N M).length = 0 := by rw [hw0]; rfl
      obtain rfl : r = ⟨#[46]⟩ := by rw [← HR.out]; unfold wayS; rw [if_pos hw0]
      rw [hl0]
      clear hcap4 hw0
      go_wp2_with fail
      go_ret2
      exact ⟨rfl, HB4.out⟩
    · have hlp : ¬ (wayL N M).length = 0 := by simpa using hw0
      have hwl : (wayL N M).length ≤ 64 := by rw [wayL_len, HK.out, HL.out.1, HL.out.2]; omega
      have HJ : Hid (Calls Try.prog 19 #[.slice a4 (wayL N M).length c4, .string ⟨#[47]⟩] W3 fun e w' => e = .returned (.string r) ∧ Below W3.heap.size W3 w') := by
        have h1 := join_any (c := c4) HI4.out hcap4 (by omega) (way_jn HG.out.1 HG.out.2)
        have h2 : r = bsL (Lib.join ((wayL N M).map (·.data.toList)) [47]) := by rw [← HR.out]; unfold wayS; rw [if_neg hw0]
        rw [h2]
        exact h1
      generalize (wayL N M).length = wl at *
      have hwz : ¬ (wl : Int) = 0 := by omega
      clear hcap4 hw0 HI4
      go_wp2_with fail
      refine HJ.out.mono ?_
      rintro e W4 ⟨rfl, hb5⟩
      go_wp2_with fail
      go_ret2
      exact ⟨rfl, HB4.out.trans (hb5.mono HB4.out.size)⟩
set_option maxRecDepth 100000 in
set_option maxHeartbeats 4000000 in
theorem prel_any (s t : ByteArray) (w : World) : Calls Try.prog 7 #[.string s, .string t] w fun e w' => e = .returned (.tuple #[.string (reR s.data.toList t.data.toList).1, .int .i64 (reR s.data.toList t.data.toList).2]) ∧ Below w.heap.size w w' := by
  unfold reR
  by_cases hz : (prs s.data.toList).2.2.2 = 0
  · rw [if_pos hz]
    by_cases hz2 : (prs t.data.toList).2.2.2 = 0
    · rw [if_pos hz2]
      obtain ⟨N, d, i, z, hp⟩ : ∃ N d i z, prs s.data.toList = (N, d, i, z) := ⟨_, _, _, _, rfl⟩
      obtain ⟨M, d2, i2, z2, hp2⟩ : ∃ M d2 i2 z2, prs t.data.toList = (M, d2, i2, z2) := ⟨_, _, _, _, rfl⟩
      rw [hp] at hz ⊢
      rw [hp2] at hz2 ⊢
      obtain rfl : z = 0 := hz
      obtain rfl : z2 = 0 := hz2
      exact prel_ok s t hp hp2 w
    · rw [if_neg hz2]
      have HX := both_bad2 s t hz hz2
      generalize (prs t.data.toList).2.2.2 = z at *
      have hzb : (z == 0) = false := by simpa using hz2
      have hzn : (z != 0) = true := by simpa using hz2
      clear hz
      go_enter Try.func7, Try.ntmps7
      go_wp2_with fail
      refine (HX _).mono ?_
      rintro e w1 ⟨rfl, hb⟩
      go_wp2_with fail
      go_ret2
      exact ⟨rfl, hb⟩
  · rw [if_neg hz]
    have HX := both_bad1 s t hz
    generalize (prs s.data.toList).2.2.2 = z at *
    have hzb : (z == 0) = false := by simpa using hz
    have hzn : (z != 0) = true := by simpa using hz
    go_enter Try.func7, Try.ntmps7
    go_wp2_with fail
    refine (HX _).mono ?_
    rintro e w1 ⟨rfl, hb⟩
    go_wp2_with fail
    go_ret2
    exact ⟨rfl, hb⟩
end Go.Proofs.Ytggacdlnpakehaa

namespace Go.Proofs.Ytggacdlnpakehaa
open Go Go.RowKit Go.Shelf
set_option linter.unusedVariables false
set_option linter.unusedSimpArgs false
/-- what is read: the text itself, or the base, a slash and the text -/
def jnS (b s : ByteArray) : ByteArray := if s.data.toList[0]? = some 47 then s else b ++ ⟨#[47]⟩ ++ s
set_option maxRecDepth 100000 in
set_option maxHeartbeats 4000000 in
theorem pjoin_any (b s : ByteArray) (hb : b.size ≤ 140737488355327) (hs : s.size ≤ 140737488355327) (w : World) : Calls Try.prog 5 #[.string b, .string s] w fun e w' => e = .returned (.tuple #[.string (clnS (jnS b s).data.toList), .int .i64 (prs (jnS b s).data.toList).2.2.2]) ∧ Below w.heap.size w w' := by
  have HC : Hid (∀ w : World, Calls Try.prog 13 #[.string (jnS b s)] w fun e w' => e = .returned (.tuple #[.string (clnS (jnS b s).data.toList), .int .i64 (prs (jnS b s).data.toList).2.2.2]) ∧ Below w.heap.size w w') := clean_any (jnS b s)
  have hX := prefix_any s
  generalize clnS (jnS b s).data.toList = q at *
  generalize (prs (jnS b s).data.toList).2.2.2 = z at *
  by_cases h47 : s.data.toList[0]? = some 47
  · have hj : jnS b s = s := by unfold jnS; rw [if_pos h47]
    rw [hj] at HC
    have HX : Hid (∀ w : World, Calls Try.prog 12 #[.string s, .string ⟨#[47]⟩] w fun e w' => e = .returned (.bool true) ∧ w' = w) := fun w => by
      have := hX w
      rwa [decide_eq_true h47] at this
    clear hj hX h47
    go_enter Try.func5, Try.ntmps5
    go_wp2_with fail
    refine (HX.out _).mono ?_
    rintro e w9 ⟨rfl, hw9⟩
    subst w9
    go_wp2_with fail
    refine (HC.out _).mono ?_
    rintro e w3 ⟨rfl, hb3⟩
    go_wp2_with fail
    go_ret2
    exact ⟨rfl, hb3⟩
  · obtain ⟨t, ht⟩ : ∃ t : ByteArray, b ++ (⟨#[47]⟩ : ByteArray) ++ s = t := ⟨_, rfl⟩
    have hj : jnS b s = t := by unfold jnS; rw [if_neg h47]; exact ht
    rw [hj] at HC
    have HX : Hid (∀ w : World, Calls Try.prog 12 #[.string s, .string ⟨#[47]⟩] w fun e w' => e = .returned (.bool false) ∧ w' = w) := fun w => by
      have := hX w
      rwa [decide_eq_false h47] at this
    have hz1 : (b ++ (⟨#[47]⟩ : ByteArray)).size = b.size + 1 := ByteArray.size_append
    have hz2 : (b ++ (⟨#[47]⟩ : ByteArray) ++ s).size = b.size + 1 + s.size := by rw [ByteArray.size_append, hz1]
    clear hj hX h47
    go_enter Try.func5, Try.ntmps5
    go_wp2_with fail
    refine (HX.out _).mono ?_
    rintro e w9 ⟨rfl, hw9⟩
    subst w9
    go_wp2_with fail
    refine (HC.out _).mono ?_
    rintro e w3 ⟨rfl, hb3⟩
    go_wp2_with fail
    go_ret2
    exact ⟨rfl, hb3⟩
set_option maxRecDepth 100000 in
set_option maxHeartbeats 4000000 in
theorem rjoin_any (b s : ByteArray) (hb : b.size ≤ 140737488355327) (hs : s.size ≤ 140737488355327) (w : World) : Calls Try.prog 6 #[.string b, .string s] w fun e w' => e = .returned (.tuple #[.string (clnS (jnS b s).data.toList), .int .i64 (prs (jnS b s).data.toList).2.2.2]) ∧ Below w.heap.size w w' := by
  obtain ⟨N, d, i, z, hp⟩ : ∃ N d i z, prs (jnS b s).data.toList = (N, d, i, z) := ⟨_, _, _, _, rfl⟩
  have HG : Hid (GoodN N) := by have := good_prs (jnS b s).data.toList; rwa [hp] at this
  have HX := rparse_at (jnS b s) hp
  obtain ⟨q, hq⟩ : ∃ q, clnS (jnS b s).data.toList = q := ⟨_, rfl⟩
  have HQ : Hid (q = if z = 0 then bsL (frmL N) else ⟨#[]⟩) := by
    show q = _
    rw [← hq]
    unfold clnS
    rw [hp]
  rw [hq, hp]
  show Calls _ _ _ _ fun e w' => e = .returned (.tuple #[.string q, .int .i64 z]) ∧ _
  clear hp hq
  have hz1 : (b ++ (⟨#[47]⟩ : ByteArray)).size = b.size + 1 := ByteArray.size_append
  have hz2 : (b ++ (⟨#[47]⟩ : ByteArray) ++ s).size = b.size + 1 + s.size := by rw [ByteArray.size_append, hz1]
  obtain ⟨t, ht⟩ : ∃ t : ByteArray, b ++ (⟨#[47]⟩ : ByteArray) ++ s = t := ⟨_, rfl⟩
  have HTL : Hid (s.toList = s.data.toList) := Lib.toList_data s
  have fin : ∀ (u : ByteArray), jnS b s = u → Hid (∀ w : World, Calls Try.prog 14 #[.string u] w fun e w' => ∃ (a : Option Addr) (c : Nat), e = .returned (.tuple #[.agg #[.slice a N.length c, .bool d], .int .i64 (i : Int), .int .i64 z]) ∧ w'.ownsRow w.heap.size 9 1 (.slice a N.length c) N.length (N.map Value.string) ∧ Below w.heap.size w w') := fun u e => by rw [← e]; exact HX
  by_cases h47 : s.data.toList[0]? = some 47
  · have HP := fin s (by unfold jnS; rw [if_pos h47])
    have hpos : 0 < s.size := by rw [Lib.size_eq]; exact (List.getElem?_eq_some_iff.1 h47).1
    have t0 : ¬ s.toList = [] := by rw [HTL.out]; intro e; rw [e] at h47; cases h47
    have q0 : s.toList.isEmpty = false := by simpa using t0
    have x0 := Lib.data_getElem? s 0 hpos
    rw [h47] at x0
    injection x0 with x0
    have hb0 : ((s[0]'hpos).toNat : Int) = 47 := by rw [← x0]; rfl
    have hz0 : (0 : Int) < (s.size : Int) := by omega
    clear h47 HX fin x0
    by_cases hz : z = 0
    · subst hz
      have HQ2 : Hid (bsL (frmL N) = q) := by have := HQ.out; rw [if_pos rfl] at this; exact this.symm
      clear HQ
      go_enter Try.func6, Try.ntmps6
      go_wp2_with fail
      refine (HP.out _).mono ?_
      rintro e w1 ⟨a, c, rfl, ho, hb1⟩
      have hb2 : Below w1.heap.size w1 (w1.alloc (.cells #[.slice a N.length c, .bool d] 38)) := (Below.refl _ w1).alloc (Nat.le_refl _) _
      have HF : Hid (Calls Try.prog 15 #[.slice a N.length c] (w1.alloc (.cells #[.slice a N.length c, .bool d] 38)) fun e w' => e = .returned (.string q) ∧ w' = (w1.alloc (.cells #[.slice a N.length c, .bool d] 38))) := by
        have := form18_any (c := c) (own_isN (kown_below ho hb2)) HG.out
        rwa [HQ2.out] at this
      have HB : Hid (Below w.heap.size w (w1.alloc (.cells #[.slice a N.length c, .bool d] 38))) := hb1.trans (hb2.mono hb1.size)
      clear ho hb1 hb2
      go_wp2_with fail
      refine HF.out.mono ?_
      rintro e w3 ⟨rfl, hw3⟩
      subst w3
      go_wp2_with fail
      go_ret2
      exact ⟨rfl, HB.out⟩
    · have hzb : (z == 0) = false := by simpa using hz
      have hzn : (z != 0) = true := by simpa using hz
      obtain rfl : q = ⟨#[]⟩ := by have := HQ.out; rwa [if_neg hz] at this
      clear HQ
      go_enter Try.func6, Try.ntmps6
      go_wp2_with fail
      refine (HP.out _).mono ?_
      rintro e w1 ⟨a, c, rfl, ho, hb1⟩
      have HB : Hid (Below w.heap.size w (w1.alloc (.cells #[.slice a N.length c, .bool d] 38))) := hb1.alloc hb1.size _
      clear ho hb1
      go_wp2_with fail
      go_ret2
      exact ⟨rfl, HB.out⟩
  · have HP := fin t (by unfold jnS; rw [if_neg h47]; exact ht)
    clear HX fin
    by_cases h0 : s.size = 0
    · have t0 : s.toList = [] := by rw [HTL.out]; exact List.length_eq_zero_iff.1 (by rw [← Lib.size_eq]; exact h0)
      have q0 : s.toList.isEmpty = true := by rw [t0]; rfl
      clear h47
      by_cases hz : z = 0
      · subst hz
        have HQ2 : Hid (bsL (frmL N) = q) := by have := HQ.out; rw [if_pos rfl] at this; exact this.symm
        clear HQ
        go_enter Try.func6, Try.ntmps6
        go_wp2_with fail
        refine (HP.out _).mono ?_
        rintro e w1 ⟨a, c, rfl, ho, hb1⟩
        have hb2 : Below w1.heap.size w1 (w1.alloc (.cells #[.slice a N.length c, .bool d] 38)) := (Below.refl _ w1).alloc (Nat.le_refl _) _
        have HF : Hid (Calls Try.prog 15 #[.slice a N.length c] (w1.alloc (.cells #[.slice a N.length c, .bool d] 38)) fun e w' => e = .returned (.string q) ∧ w' = (w1.alloc (.cells #[.slice a N.length c, .bool d] 38))) := by
          have := form18_any (c := c) (own_isN (kown_below ho hb2)) HG.out
          rwa [HQ2.out] at this
        have HB : Hid (Below w.heap.size w (w1.alloc (.cells #[.slice a N.length c, .bool d] 38))) := hb1.trans (hb2.mono hb1.size)
        clear ho hb1 hb2
        go_wp2_with fail
        refine HF.out.mono ?_
        rintro e w3 ⟨rfl, hw3⟩
        subst w3
        go_wp2_with fail
        go_ret2
        exact ⟨rfl, HB.out⟩
      · have hzb : (z == 0) = false := by simpa using hz
        have hzn : (z != 0) = true := by simpa using hz
        obtain rfl : q = ⟨#[]⟩ := by have := HQ.out; rwa [if_neg hz] at this
        clear HQ
        go_enter Try.func6, Try.ntmps6
        go_wp2_with fail
        refine (HP.out _).mono ?_
        rintro e w1 ⟨a, c, rfl, ho, hb1⟩
        have HB : Hid (Below w.heap.size w (w1.alloc (.cells #[.slice a N.length c, .bool d] 38))) := hb1.alloc hb1.size _
        clear ho hb1
        go_wp2_with fail
        go_ret2
        exact ⟨rfl, HB.out⟩
    · have hpos : 0 < s.size := by omega
      have t0 : ¬ s.toList = [] := by rw [HTL.out]; intro e; rw [Lib.size_eq, e] at h0; exact h0 rfl
      have q0 : s.toList.isEmpty = false := by simpa using t0
      have x0 := Lib.data_getElem? s 0 hpos
      rw [x0] at h47
      have hb0 : ¬ ((s[0]'hpos).toNat : Int) = 47 := by
        have := ubeq_ne (a := s[0]'hpos) (b := 47) (fun e => h47 (by rw [e]))
        simpa using this
      have hz0 : (0 : Int) < (s.size : Int) := by omega
      clear h47 x0
      by_cases hz : z = 0
      · subst hz
        have HQ2 : Hid (bsL (frmL N) = q) := by have := HQ.out; rw [if_pos rfl] at this; exact this.symm
        clear HQ
        go_enter Try.func6, Try.ntmps6
        go_wp2_with fail
        refine (HP.out _).mono ?_
        rintro e w1 ⟨a, c, rfl, ho, hb1⟩
        have hb2 : Below w1.heap.size w1 (w1.alloc (.cells #[.slice a N.length c, .bool d] 38)) := (Below.refl _ w1).alloc (Nat.le_refl _) _
        have HF : Hid (Calls Try.prog 15 #[.slice a N.length c] (w1.alloc (.cells #[.slice a N.length c, .bool d] 38)) fun e w' => e = .returned (.string q) ∧ w' = (w1.alloc (.cells #[.slice a N.length c, .bool d] 38))) := by
          have := form18_any (c := c) (own_isN (kown_below ho hb2)) HG.out
          rwa [HQ2.out] at this
        have HB : Hid (Below w.heap.size w (w1.alloc (.cells #[.slice a N.length c, .bool d] 38))) := hb1.trans (hb2.mono hb1.size)
        clear ho hb1 hb2
        go_wp2_with fail
        refine HF.out.mono ?_
        rintro e w3 ⟨rfl, hw3⟩
        subst w3
        go_wp2_with fail
        go_ret2
        exact ⟨rfl, HB.out⟩
      · have hzb : (z == 0) = false := by simpa using hz
        have hzn : (z != 0) = true := by simpa using hz
        obtain rfl : q = ⟨#[]⟩ := by have := HQ.out; rwa [if_neg hz] at this
        clear HQ
        go_enter Try.func6, Try.ntmps6
        go_wp2_with fail
        refine (HP.out _).mono ?_
        rintro e w1 ⟨a, c, rfl, ho, hb1⟩
        have HB : Hid (Below w.heap.size w (w1.alloc (.cells #[.slice a N.length c, .bool d] 38))) := hb1.alloc hb1.size _
        clear ho hb1
        go_wp2_with fail
        go_ret2
        exact ⟨rfl, HB.out⟩
end Go.Proofs.Ytggacdlnpakehaa

namespace Go.Proofs.Ytggacdlnpakehaa
open Go Go.RowKit Go.Shelf
set_option linter.unusedVariables false
set_option linter.unusedSimpArgs false
theorem prs_awake : prs [47, 97, 47, 47, 98, 47, 46, 47, 99, 47, 46, 46, 47, 100] = ([⟨#[97]⟩, ⟨#[98]⟩, ⟨#[100]⟩], false, 0, 0) := by kernel_rfl
set_option maxRecDepth 100000 in
set_option maxHeartbeats 4000000 in
theorem awake18_any (w : World) : Calls Try.prog 4 #[] w fun e w' => e = .returned (.bool true) ∧ Below w.heap.size w w' := by
  have HX : Hid (∀ w : World, Calls Try.prog 11 #[.string ⟨#[47, 97, 47, 47, 98, 47, 46, 47, 99, 47, 46, 46, 47, 100]⟩] w fun e w' => ∃ g cap, e = .returned (.tuple #[.agg #[.slice (some ⟨g, 0, none⟩) 3 cap, .bool false], .int .i64 0, .int .i64 0]) ∧ w'.cell? ⟨g, 2, none⟩ = some (.string ⟨#[100]⟩) ∧ g < w'.heap.size ∧ Below w.heap.size w w') := fun w => by
    refine (parse_any _ w).mono ?_
    rintro e w' ⟨v, he, ho, hb⟩
    have e1 : prs ((⟨#[47, 97, 47, 47, 98, 47, 46, 47, 99, 47, 46, 46, 47, 100]⟩ : ByteArray).data.toList) = ([⟨#[97]⟩, ⟨#[98]⟩, ⟨#[100]⟩], false, 0, 0) := prs_awake
    rw [e1] at he ho
    obtain ⟨g, cap, rfl⟩ := ownsRow_succ ho
    exact ⟨g, cap, he, ho.cellAt 2 (by decide), (ho.lt g rfl).2, hb⟩
  go_enter Try.func4, Try.ntmps4
  go_wp2_with fail
  refine (HX.out _).mono ?_
  rintro e w9 ⟨g, cap, rfl, hc, hg, hb⟩
  have hb2 := hb.alloc hb.size (.cells #[.slice (some ⟨g, 0, none⟩) 3 cap, .bool false] 33)
  have hc2 : (w9.alloc (.cells #[.slice (some ⟨g, 0, none⟩) 3 cap, .bool false] 33)).cell? ⟨g, 2, none⟩ = some (.string ⟨#[100]⟩) := (((Below.refl _ w9).alloc (Nat.le_refl _) _).cell (p := ⟨g, 2, none⟩) hg).trans hc
  go_wp2_with fail
  go_ret
  exact ⟨rfl, hb2⟩
end Go.Proofs.Ytggacdlnpakehaa

namespace Go.Proofs.Ytggacdlnpakehaa
open Go Go.RowKit Go.Shelf
set_option linter.unusedVariables false
set_option linter.unusedSimpArgs false
set_option maxRecDepth 100000 in
set_option maxHeartbeats 4000000 in
theorem pathJoinsLaw (s t : ByteArray) (hs : s.size ≤ 140737488355327) (ht : t.size ≤ 140737488355327) (w : World) :
    Calls Try.prog 3 #[.agg #[.string s, .string t]] w fun e w' => e = .returned (.bool true) ∧ Below w.heap.size w w' := by
  have HA : Hid (∀ w : World, Calls Try.prog 4 #[] w fun e w' => e = .returned (.bool true) ∧ Below w.heap.size w w') := awake18_any
  have h1 := pjoin_any s t hs ht
  have h2 := rjoin_any s t hs ht
  have h3 := prel_any s t
  have h4 := rrel_any s t
  have h5 := pcommon_any s t
  have h6 := rcommon_any s t
  generalize clnS (jnS s t).data.toList = x1 at *
  generalize (prs (jnS s t).data.toList).2.2.2 = z1 at *
  generalize (reR s.data.toList t.data.toList).1 = x2 at *
  generalize (reR s.data.toList t.data.toList).2 = z2 at *
  generalize (coR s.data.toList t.data.toList).1 = x3 at *
  generalize (coR s.data.toList t.data.toList).2 = z3 at *
  have H : Hid (_ ∧ _ ∧ _ ∧ _ ∧ _ ∧ _) := ⟨h1, h2, h3, h4, h5, h6⟩
  clear h1 h2 h3 h4 h5 h6
  have e1 : (x1.toList == x1.toList) = true := by simp
  have e2 : (x2.toList == x2.toList) = true := by simp
  have e3 : (x3.toList == x3.toList) = true := by simp
  have i1 : (z1 == z1) = true := by simp
  have i2 : (z2 == z2) = true := by simp
  have i3 : (z3 == z3) = true := by simp
  go_enter Try.func3, Try.ntmps3
  go_wp2_with fail
  have k0 := Blk.new w 23 #[.string s, .string t]
  have B0 : Below w.heap.size w (w.alloc (.cells #[.string s, .string t] 23)) := (Below.refl _ w).alloc (Nat.le_refl _) _
  have HI : Hid (_ ∧ _) := ⟨k0, B0⟩
  clear k0 B0
  refine (HA.out _).mono ?_
  rintro e w1 ⟨rfl, hb⟩
  obtain ⟨k0, B0⟩ := HI.out
  have k1 := k0.below hb k0.lt
  have B1 := B0.trans (hb.mono B0.size)
  have c0 := k1.cell 0
  have c1 := k1.cell 1
  have HI : Hid (_ ∧ _) := ⟨k1, B1⟩
  clear k0 B0 k1 B1 hb
  go_wp2_with fail
  refine (H.out.1 _).mono ?_
  rintro e w2 ⟨rfl, hb⟩
  obtain ⟨k0, B0⟩ := HI.out
  have k1 := k0.below hb k0.lt
  have B1 := B0.trans (hb.mono B0.size)
  clear c0 c1 HI
  have c0 := k1.cell 0
  have c1 := k1.cell 1
  have HI : Hid (_ ∧ _) := ⟨k1, B1⟩
  clear k0 B0 k1 B1 hb
  go_wp2_with fail
  refine (H.out.2.1 _).mono ?_
  rintro e w3 ⟨rfl, hb⟩
  obtain ⟨k0, B0⟩ := HI.out
  have k1 := k0.below hb k0.lt
  have B1 := B0.trans (hb.mono B0.size)
  clear c0 c1 HI
  have c0 := k1.cell 0
  have c1 := k1.cell 1
  have HI : Hid (_ ∧ _) := ⟨k1, B1⟩
  clear k0 B0 k1 B1 hb
  go_wp2_with fail
  refine (H.out.2.2.1 _).mono ?_
  rintro e w4 ⟨rfl, hb⟩
  obtain ⟨k0, B0⟩ := HI.out
  have k1 := k0.below hb k0.lt
  have B1 := B0.trans (hb.mono B0.size)
  clear c0 c1 HI
  have c0 := k1.cell 0
  have c1 := k1.cell 1
  have HI : Hid (_ ∧ _) := ⟨k1, B1⟩
  clear k0 B0 k1 B1 hb
  go_wp2_with fail
  refine (H.out.2.2.2.1 _).mono ?_
  rintro e w5 ⟨rfl, hb⟩
  obtain ⟨k0, B0⟩ := HI.out
  have k1 := k0.below hb k0.lt
  have B1 := B0.trans (hb.mono B0.size)
  clear c0 c1 HI
  have c0 := k1.cell 0
  have c1 := k1.cell 1
  have HI : Hid (_ ∧ _) := ⟨k1, B1⟩
  clear k0 B0 k1 B1 hb
  go_wp2_with fail
  refine (H.out.2.2.2.2.1 _).mono ?_
  rintro e w6 ⟨rfl, hb⟩
  obtain ⟨k0, B0⟩ := HI.out
  have k1 := k0.below hb k0.lt
  have B1 := B0.trans (hb.mono B0.size)
  clear c0 c1 HI
  have c0 := k1.cell 0
  have c1 := k1.cell 1
  have HI : Hid (_ ∧ _) := ⟨k1, B1⟩
  clear k0 B0 k1 B1 hb
  go_wp2_with fail
  refine (H.out.2.2.2.2.2 _).mono ?_
  rintro e w9 ⟨rfl, hb⟩
  obtain ⟨k0, B0⟩ := HI.out
  have HB : Hid (Below w.heap.size w w9) := B0.trans (hb.mono B0.size)
  clear k0 B0 hb c0 c1 HI
  go_wp2_with fail
  go_ret
  exact ⟨by simp, HB.out⟩
end Go.Proofs.Ytggacdlnpakehaa
