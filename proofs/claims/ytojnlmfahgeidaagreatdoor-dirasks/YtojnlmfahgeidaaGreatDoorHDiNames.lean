/- Directories: the names of an inode, in the program and in the document. -/
import Derived.Test.YtojnlmfahgeidaaGreatDoorHDiList
import Derived.Test.YtojnlmfahgeidaaGreatDoorHTrRead
import Derived.Test.YtojnlmfahgeidaaGreatDoorHNaRSo
import Derived.Deep.Cut
import Derived.Handy

namespace Go.Proofs.YtojnlmfahgeidaaGreatDoor
open Go Go.RowKit Go.Nam
set_option linter.unusedSimpArgs false
set_option linter.unusedVariables false
theorem infoSt : (Tryz.prog.info? 9).map (fun i => (i.zero, i.size, i.bytes)) = some (some (.string ⟨#[]⟩), 1, 16) := by kernel_rfl
/-- append of one text to an own slice of texts -/
theorem wpList_append_str1 {P : Program} {ops : Array Oper} {rest : List Oper} {o : Oper} {a : Act} {w : World} {Q : Exit → Act → World → Prop} (hgd : o.guard = none) (s x : Operand) (t : TypeId)
    (ho : o.op = .call { callee := .builtin .append, args := #[s, x], argTypes := #[t, t] }) (B : Nat) (e : TypeId) (i : TypeInfo) (z : Value) (ht : P.underlying t = some (.slice e)) (hi : P.info? e = some i) (hz : i.zero = some z) (hsize : i.size = 1) (hby : i.bytes = 16) (hzs : z.cells.size = 1)
    (v : Value) (L : List ByteArray) (k : Nat) (hs : a.eval s = v) (hown : w.ownsRow B e 1 v k (L.map Value.string)) (g c : Nat) (u : ByteArray) (hx : a.eval x = .slice (some ⟨g, 0, none⟩) 1 c) (hc : w.cell? ⟨g, 0, none⟩ = some (.string u)) (hk : k ≤ 1000000000) (hbase : B ≤ w.heap.size)
    (h : ∀ v' w', w'.ownsRow B e 1 v' (k + 1) ((L ++ [u]).map Value.string) → w.grownBy w' v.ownBlock → Below B w w' → wpList P ops Q rest (a.put o.dst v') w') : wpList P ops Q (o :: rest) a w := by
  have hv := hown.lt
  refine wpList_append_own _ hgd s x t ho B e i z 1 16 ht hi hz hsize hby hzs (by decide) v k _ hs hown ⟨g, 0, none⟩ 1 c [.string u] hx rfl (fun j y hy => ?_) (fun y hy => ?_) (by unfold maxLen; omega) (by omega) hbase fun v' w' h1 h2 h3 => ?_
  · match j with
    | 0 =>
      simp at hy
      subst hy
      exact hc
    | j + 1 => simp at hy
  · simp at hy
    subst hy
    rfl
  · refine h v' w' ?_ h2 ((Below.refl _ _).grown h2 hbase (fun k hk => (hv k hk).1))
    rw [List.map_append]
    exact h1
set_option maxRecDepth 100000 in
set_option maxHeartbeats 4000000 in
theorem names1_any (i q : Int) (s : ByteArray) (bx : Nat) (w : World) (hb : w.cell? ⟨bx, 0, none⟩ = some (.int .i64 q)) (hl : bx < w.heap.size) : Calls Tryz.prog 63 #[.agg #[.int .i64 i, .string s], .pointer (some ⟨bx, 0, none⟩)] w fun e w' => e = .returned (.bool (decide (i = q))) ∧ Below w.heap.size w w' := by
  have b0 : Blk (w.alloc (.cells #[.int .i64 i, .string s] 36)) w.heap.size 36 #[.int .i64 i, .string s] := Blk.new _ _ _
  have hB : Below w.heap.size w (w.alloc (.cells #[.int .i64 i, .string s] 36)) := below_new1 _ _
  have c0 : (w.alloc (.cells #[.int .i64 i, .string s] 36)).cell? ⟨w.heap.size, 0, none⟩ = some (.int .i64 i) := (b0.cell 0).trans rfl
  have c2 : (w.alloc (.cells #[.int .i64 i, .string s] 36)).cell? ⟨bx, 0, none⟩ = some (.int .i64 q) := (hB.cell (p := ⟨bx, 0, none⟩) hl).trans hb
  have HB : Hid (Below w.heap.size w (w.alloc (.cells #[.int .i64 i, .string s] 36))) := hB
  clear hb hB b0
  go_enter Tryz.func63, Tryz.ntmps63
  go_wp2_with fail
  go_ret
  exact ⟨by by_cases h : i = q <;> simp [h], HB.out⟩
theorem nm_take (R : List Lk) (j : Nat) (h : j < R.length) : (R.map Prod.snd).take (j + 1) = (R.map Prod.snd).take j ++ [(R.getD j (0, ⟨#[]⟩)).2] := by
  rw [List.take_add_one, List.getElem?_map]
  congr 1
  rw [List.getElem?_eq_getElem h]
  simp [List.getD, List.getElem?_eq_getElem h]
section
variable {w : World} {x mf ml mc : Nat} {cp : Option Addr} {top : Int} {H : Nat → Hd} {D : Nat → Nat → Nat → Nat} {n k st : Nat} {N : Nat → Int} {S : Nat → ByteArray}
set_option maxRecDepth 100000 in
set_option maxHeartbeats 8000000 in
theorem IM.namesD (h : IM w x mf ml mc cp top H D) (hd : Di H D n k st N S) (q : Int) : Calls Tryz.prog 16 #[.pointer (some ⟨x, 0, none⟩), .int .i64 (n : Int), .int .i64 q] w fun e w' => ∃ v R, e = .returned (.tuple #[v, .int .i64 0]) ∧ w'.ownsRow w.heap.size 9 1 v R.length ((R.map Prod.snd).map Value.string) ∧ SoR R ∧ R.Perm ((liR N S k).filter fun y => decide (y.1 = q)) ∧ Below w.heap.size w w' := by
  obtain ⟨i0, hi0, hz0, hz1, hz2⟩ := info_parts infoSt
  have hle := hd.le
  have hzi : ∀ w, (zeroValue 86).run Tryz.prog w = .ok (.agg nf0) w := zero_nf
  have HDR : Hid (∀ V, Below w.heap.size w V → Calls Tryz.prog 57 #[.pointer (some ⟨x, 0, none⟩), .int .i64 (n : Int)] V fun e w' => e = .returned (.tuple #[.agg (nfC (n : Int) 2 (H n).l ((64 * k : Nat) : Int) st), .int .i64 0]) ∧ Below V.heap.size V w') := fun V hV => (h.below hV).dirD hd
  have HTH : Hid (∀ V, Below w.heap.size w V → V.cell? ⟨w.heap.size, 0, none⟩ = some (.int .i64 q) → w.heap.size < V.heap.size → Calls Tryz.prog 62 #[.pointer (some ⟨x, 0, none⟩), .agg (nfC (n : Int) 2 (H n).l ((64 * k : Nat) : Int) st), .func (.func 63) #[] #[.pointer (some ⟨w.heap.size, 0, none⟩)]] V fun e w' => ∃ v R, e = .returned (.tuple #[v, .int .i64 0]) ∧ w'.ownsRow V.heap.size 36 2 v R.length (lkR R) ∧ SoR R ∧ R.Perm ((liR N S k).filter fun y => decide (y.1 = q)) ∧ Below V.heap.size V w') := fun V hV hc hl =>
    (h.below hV).thoseD hd 63 w.heap.size (fun y => decide (y.1 = q)) (enters_of Tryz.func63 (by kernel_rfl) rfl) fun i s U hU => names1_any i q s w.heap.size U ((hU.cell (p := ⟨w.heap.size, 0, none⟩) hl).trans hc) (by have := hU.size; omega)
  clear h hd
  generalize (H n).l = l at *
  generalize ((64 * k : Nat) : Int) = z at *
  have hb1 : Below w.heap.size w (w.alloc (.cells #[.int .i64 q] 3)) := below_new1 _ _
  have p1 : Blk (w.alloc (.cells #[.int .i64 q] 3)) w.heap.size 3 #[.int .i64 q] := Blk.new _ _ _
  have H1 := HDR.out _ hb1
  clear HDR
  go_enter Tryz.func16, Tryz.ntmps16
  go_wp2_with fail
  generalize (w.alloc (.cells #[.int .i64 q] 3)) = w1 at *
  refine H1.mono ?_
  rintro e w2 ⟨rfl, hb2⟩
  have u1 : Blk (w2.alloc (.cells nf0 86)) w2.heap.size 86 nf0 := Blk.new _ _ _
  have u2 := u1.set (nfC (n : Int) 2 l z st)
  have hb12 := hb1.trans (hb2.mono hb1.size)
  have hB : Below w.heap.size w ((w2.alloc (.cells nf0 86)).setRow w2.heap.size (nfC (n : Int) 2 l z st)) := below_setRow (hb12.alloc hb12.size _) hb12.size _
  have p2 := p1.below hb2 p1.lt
  have p3 : Blk ((w2.alloc (.cells nf0 86)).setRow w2.heap.size (nfC (n : Int) 2 l z st)) w.heap.size 3 #[.int .i64 q] := (p2.alloc _).other _ (by have := p2.lt; omega)
  have H4 := HTH.out _ hB ((p3.cell 0).trans rfl) p3.lt
  have HB : Hid (Below w.heap.size w ((w2.alloc (.cells nf0 86)).setRow w2.heap.size (nfC (n : Int) 2 l z st))) := hB
  clear hb1 hb2 hb12 H1 p1 p2 p3 hB HTH
  go_wp2_with (first | (refine wpList_store_row (by rfl) 86 _ _ (by rfl) (w2.heap.size) (nfC (n : Int) 2 l z st) (by rfl) (by rfl) 86 (nf0) (by exact u1) (size_nf.trans (by rfl)) (by rfl) (nf_all _ _ _ _ _) ?_; simp only [Act.put, List.setIfInBounds_toArray, List.set_cons_zero, List.set_cons_succ]) | (refine wpList_load_row (by rfl) 86 _ (by rfl) (w2.heap.size) (by rfl) 86 (nfC (n : Int) 2 l z st) (0, 0) _ (by exact u2) Tryz.underlying86 (by rfl) (size_nf.trans (by rfl)) ?_; simp only [Act.put, List.setIfInBounds_toArray, List.set_cons_zero, List.set_cons_succ]) | fail)
  generalize ((w2.alloc (.cells nf0 86)).setRow w2.heap.size (nfC (n : Int) 2 l z st)) = w3 at *
  refine H4.mono ?_
  rintro e w5 ⟨v, R, rfl, ho, hs, hp, hb5⟩
  obtain ⟨al, lc, rfl, hll, _⟩ := own_lkcR ho rfl
  have hb15 := HB.out.trans (hb5.mono HB.out.size)
  have hRk : R.length ≤ 16384 := by
    have h1 := hp.length_eq
    have h2 := List.length_filter_le (fun y : Lk => decide (y.1 = q)) (liR N S k)
    rw [liR_len] at h2
    omega
  have HR : Hid (SoR R ∧ R.Perm ((liR N S k).filter fun y => decide (y.1 = q))) := ⟨hs, hp⟩
  have HLL : Hid (IsLkC w5 al R.length (fun i => (R.getD i (0, ⟨#[]⟩)).1) (fun i => (R.getD i (0, ⟨#[]⟩)).2)) := hll
  have HB5 : Hid (Below w.heap.size w w5) := hb15
  have HTK : Hid (∀ j, j < R.length → (R.map Prod.snd).take (j + 1) = (R.map Prod.snd).take j ++ [(R.getD j (0, ⟨#[]⟩)).2]) := nm_take R
  have HFL : Hid ((R.map Prod.snd).take R.length = R.map Prod.snd) := List.take_of_length_le (by simp)
  obtain ⟨m, hm⟩ : ∃ m, R.length = m := ⟨_, rfl⟩
  rw [hm] at hRk HLL HTK HFL
  have HM : Hid (R.length = m) := hm
  have mz : (m : Int) ≤ 16384 := by omega
  clear ho hs hp hb5 hb15 hll H4 u1 u2 HB
  rw [hm]
  clear hm
  go_wp2_with fail
  go_loopw [11, 35] (fun v11 v35 wr => Hid (∃ j : Nat, j ≤ m ∧ v35 = .int .i64 (j : Int) ∧ wr.ownsRow w5.heap.size 9 1 v11 j (((R.map Prod.snd).take j).map Value.string) ∧ Below w5.heap.size w5 wr)) (fun _ v35 _ => m - (intOf v35).toNat)
  case atStart => exact ⟨0, Nat.zero_le _, rfl, ⟨by simp, .inl ⟨rfl, rfl⟩⟩, Below.refl _ _⟩
  case round =>
    obtain ⟨j, hj, rfl, hown, hb⟩ := Hid.out hrel
    have HO : Hid (wr.ownsRow w5.heap.size 9 1 u11 j (((R.map Prod.snd).take j).map Value.string)) := hown
    have HBL : Hid (Below w5.heap.size w5 wr) := hb
    clear hrel hown hb
    by_cases hin : j < m
    · have i1 : (j : Int) < (m : Int) := by omega
      have i0' : (0 : Int) ≤ (j : Int) := by omega
      obtain ⟨b1, o1, el, hbl, hc0, hc1⟩ := HLL.out j hin
      subst el
      have c0 : wr.cell? ⟨b1, o1 + j * 2, none⟩ = some (.int .i64 (R.getD j (0, ⟨#[]⟩)).1) := (HBL.out.cell (p := ⟨b1, o1 + j * 2, none⟩) hbl).trans hc0
      have c1 : wr.cell? ⟨b1, o1 + j * 2 + 1, none⟩ = some (.string (R.getD j (0, ⟨#[]⟩)).2) := (HBL.out.cell (p := ⟨b1, o1 + j * 2 + 1, none⟩) hbl).trans hc1
      have HT := HTK.out j hin
      clear hbl hc0 hc1
      generalize (R.getD j (0, ⟨#[]⟩)).1 = ni at *
      generalize (R.getD j (0, ⟨#[]⟩)).2 = ns at *
      have HT' : Hid ((R.map Prod.snd).take (j + 1) = (R.map Prod.snd).take j ++ [ns]) := HT
      clear HT
      have b9 : Blk (wr.alloc (.cells #[.int .i64 ni, .string ns] 36)) wr.heap.size 36 #[.int .i64 ni, .string ns] := Blk.new _ _ _
      have d1 : (wr.alloc (.cells #[.int .i64 ni, .string ns] 36)).cell? ⟨wr.heap.size, 1, none⟩ = some (.string ns) := (b9.cell 1).trans rfl
      have HOA : Hid (((wr.alloc (.cells #[.int .i64 ni, .string ns] 36)).alloc (.cells #[.string ns] 9)).ownsRow w5.heap.size 9 1 u11 j (((R.map Prod.snd).take j).map Value.string)) := (HO.out.alloc _).alloc _
      have HBA : Hid (Below w5.heap.size w5 ((wr.alloc (.cells #[.int .i64 ni, .string ns] 36)).alloc (.cells #[.string ns] 9))) := HBL.out.trans ((below_new2 _ _ _).mono HBL.out.size)
      have hcc : ((wr.alloc (.cells #[.int .i64 ni, .string ns] 36)).alloc (.cells #[.string ns] 9)).cell? ⟨wr.heap.size + 1, 0, none⟩ = some (.string ns) := ((Blk.new1 _ _ _ _).cell 0).trans rfl
      have HBS : Hid (w5.heap.size ≤ ((wr.alloc (.cells #[.int .i64 ni, .string ns] 36)).alloc (.cells #[.string ns] 9)).heap.size) := HBA.out.size
      clear b9 HO HBL
      go_wp2_with (first
        | (at_builtin; refine wpList_append_str1 (by rfl) _ _ 46 (by rfl) w5.heap.size 9 i0 (.string ⟨#[]⟩) Tryz.underlying46 hi0 hz0 hz1 hz2 rfl _ _ j (by rfl) (by exact HOA.out) _ _ ns (by rfl) (by exact hcc) (by omega) (by exact HBS.out) (fun v2 U2 ho2 hg2 hb2 => ?_); simp only [Act.put, List.setIfInBounds_toArray, List.set_cons_zero, List.set_cons_succ])
        | fail)
      have HO2 : Hid (U2.ownsRow w5.heap.size 9 1 v2 (j + 1) (((R.map Prod.snd).take (j + 1)).map Value.string)) := by rw [HT'.out]; exact ho2
      have HB2 : Hid (Below w5.heap.size w5 U2) := HBA.out.trans hb2
      clear ho2 hg2 hb2 HOA HBA hcc HBS c0 c1 d1
      go_wp2_with fail
      go_roundw
      case rel => exact ⟨j + 1, by omega, by first | rfl | go_num | simp, HO2.out, HB2.out⟩
      case measure => simp [intOf]; omega
    · have i1 : ¬ (j : Int) < (m : Int) := by omega
      have HE : Hid (wr.ownsRow w.heap.size 9 1 u11 m ((R.map Prod.snd).map Value.string) ∧ Below w.heap.size w wr) := by
        have e : j = m := by omega
        subst e
        have h1 := HO.out
        rw [HFL.out] at h1
        exact ⟨kown_mono h1 HB5.out.size, HB5.out.trans (HBL.out.mono HB5.out.size)⟩
      clear HO HBL
      go_wp2_with fail
      go_ret2
      exact ⟨u11, rfl, R, by rw [HM.out, ← List.map_map]; exact HE.out.1, HR.out.1, HR.out.2, HE.out.2⟩
end
/-- an own row of texts does not lie where entries lie -/
theorem nm_apart {w : World} {B g m c n i : Nat} {L : List ByteArray} {N : Nat → Int} {S : Nat → ByteArray} (h : w.ownsRow B 9 1 (.slice (some ⟨g, 0, none⟩) (m + 1) c) (m + 1) (L.map Value.string)) (hl : IsLkC w (some ⟨g, 0, none⟩) n N S) (hi : i < n) : False := by
  have c2 := (hl.cs (i := 0) (by omega)).1
  have c3 := h.cellAt 0 (by omega)
  simp only [Nat.zero_add, Nat.zero_mul] at c2
  rw [c2, List.getElem?_map] at c3
  cases hL : L[0]? with
  | none => rw [hL] at c3; simp at c3
  | some y => rw [hL] at c3; simp at c3
set_option maxRecDepth 100000 in
set_option maxHeartbeats 8000000 in
/-- the document's Names -/
theorem rnames17_any (a : Option Addr) (n c : Nat) (hn : n ≤ 16384) (N : Nat → Int) (S : Nat → ByteArray) (hSz : ∀ i, i < n → (S i).size ≤ 9223372036854775807) (q : Int) (w : World) (hI : IsLkC w a n N S) :
    Calls Tryz.prog 23 #[.slice a n c, .int .i64 q] w fun e w' => ∃ v R, e = .returned v ∧ w'.ownsRow w.heap.size 9 1 v R.length ((R.map Prod.snd).map Value.string) ∧ SoR R ∧ R.Perm ((liR N S n).filter fun y => decide (y.1 = q)) ∧ Below w.heap.size w w' := by
  obtain ⟨i0, hi0, hz0, hz1, hz2⟩ := info_parts infoSt
  have HE0 : Hid ((w.alloc (.cells #[] 9)).ownsRow w.heap.size 9 1 (.slice (some ⟨w.heap.size, 0, none⟩) 0 0) 0 []) := kown_empty (Blk.new w 9 #[]) (Nat.le_refl _)
  have hb1 : Below w.heap.size w (w.alloc (.cells #[] 9)) := below_new1 _ _
  have H1 := rsorted_any a n c (by omega) N S hSz _ (hI.below hb1)
  have HB1 : Hid (Below w.heap.size w (w.alloc (.cells #[] 9))) := hb1
  have HS1 : Hid (w.heap.size < (w.alloc (.cells #[] 9)).heap.size) := by show _ < _; simp
  have nz : (n : Int) ≤ 16384 := by omega
  clear hI hb1 hSz
  go_enter Tryz.func23, Tryz.ntmps23
  go_wp2_with fail
  generalize (w.alloc (.cells #[] 9)) = w1 at *
  refine H1.mono ?_
  rintro e w2 ⟨ga, ca, Q, rfl, hlQ, hsQ, hpQ, hoQ, hb2⟩
  obtain ⟨aw, lw, ew, hlw, _⟩ := own_lkcR hoQ hlQ
  injection ew with ew1 _ ew2
  subst ew1 ew2
  have hg1 : w1.heap.size ≤ ga := by
    rcases hoQ.2 with ⟨hq, _⟩ | ⟨g, cap, cur, hq, hB, _⟩
    · cases hq
    · injection hq with hq1 _ _
      injection hq1 with hq1
      injection hq1 with hq1
      omega
  have HQ : Hid (Q.length = n ∧ SoR Q ∧ Q.Perm (liR N S n)) := ⟨hlQ, hsQ, hpQ⟩
  have HLW : Hid (IsLkC w2 (some ⟨ga, 0, none⟩) n (fun i => (Q.getD i (0, ⟨#[]⟩)).1) (fun i => (Q.getD i (0, ⟨#[]⟩)).2)) := hlw
  have HO0 : Hid (w2.ownsRow w.heap.size 9 1 (.slice (some ⟨w.heap.size, 0, none⟩) 0 0) 0 [] ∧ w2.heap.size ≤ w2.heap.size) := ⟨kown_below HE0.out hb2, Nat.le_refl _⟩
  have HB2 : Hid (Below w.heap.size w w2) := HB1.out.trans (hb2.mono HB1.out.size)
  have HGA : Hid (w.heap.size < ga) := by have := HS1.out; show _ < _; omega
  clear hlQ hsQ hpQ hoQ hlw hb2 hg1 H1 HE0 HB1 HS1
  go_wp2_with fail
  go_loopw [5, 7] (fun v5 v7 wr => Hid (∃ j : Nat, j ≤ n ∧ v7 = .int .i64 (j : Int) ∧ ∃ (R : List Lk), R = (Q.take j).filter (fun y => decide (y.1 = q)) ∧ wr.ownsRow w.heap.size 9 1 v5 R.length ((R.map Prod.snd).map Value.string) ∧ IsLkC wr (some ⟨ga, 0, none⟩) n (fun i => (Q.getD i (0, ⟨#[]⟩)).1) (fun i => (Q.getD i (0, ⟨#[]⟩)).2) ∧ v5.ownBlock ≠ some ga ∧ Below w.heap.size w wr)) (fun _ v7 _ => n - (intOf v7).toNat)
  case atStart => exact ⟨0, Nat.zero_le _, rfl, [], rfl, HO0.out.1, HLW.out, by have := HGA.out; simp [Value.ownBlock]; omega, HB2.out⟩
  case round =>
    obtain ⟨j, hj, rfl, R, hR, hown, hlw, hne, hb⟩ := Hid.out hrel
    have hRl : R.length ≤ n := by
      rw [hR]
      refine Nat.le_trans (List.length_filter_le _ _) ?_
      rw [List.length_take]
      omega
    have HR : Hid (R = (Q.take j).filter (fun y => decide (y.1 = q))) := hR
    have HO : Hid (wr.ownsRow w.heap.size 9 1 u5 R.length ((R.map Prod.snd).map Value.string)) := hown
    have HLR : Hid (IsLkC wr (some ⟨ga, 0, none⟩) n (fun i => (Q.getD i (0, ⟨#[]⟩)).1) (fun i => (Q.getD i (0, ⟨#[]⟩)).2)) := hlw
    have HNE : Hid (u5.ownBlock ≠ some ga) := hne
    have HBL : Hid (Below w.heap.size w wr) := hb
    clear hrel hown hb hlw hne hR
    by_cases hin : j < n
    · have i1 : (j : Int) < (n : Int) := by omega
      have i0' : (0 : Int) ≤ (j : Int) := by omega
      have HTJ : Hid ((Q.take (j + 1)) = Q.take j ++ [((Q.getD j (0, ⟨#[]⟩)).1, (Q.getD j (0, ⟨#[]⟩)).2)]) := by
        have hl := HQ.out.1
        show _ = _
        rw [List.take_add_one]
        congr 1
        rw [List.getElem?_eq_getElem (by omega)]
        simp [List.getD, List.getElem?_eq_getElem (show j < Q.length by omega)]
      obtain ⟨c0, c1⟩ := HLR.out.cs hin
      simp only [Nat.zero_add] at c0 c1
      generalize (Q.getD j (0, ⟨#[]⟩)).1 = ni at *
      generalize (Q.getD j (0, ⟨#[]⟩)).2 = ns at *
      by_cases hq : ni = q
      · subst hq
        have HRN : Hid (R ++ [(ni, ns)] = (Q.take (j + 1)).filter (fun y => decide (y.1 = ni))) := by
          show _ = _
          rw [HTJ.out, List.filter_append, ← HR.out]
          simp
        have HOA : Hid ((wr.alloc (.cells #[.string ns] 9)).ownsRow w.heap.size 9 1 u5 R.length ((R.map Prod.snd).map Value.string)) := HO.out.alloc _
        have HBA : Hid (Below w.heap.size w (wr.alloc (.cells #[.string ns] 9))) := HBL.out.trans ((below_new1 _ _).mono HBL.out.size)
        have HLA : Hid (IsLkC (wr.alloc (.cells #[.string ns] 9)) (some ⟨ga, 0, none⟩) n (fun i => (Q.getD i (0, ⟨#[]⟩)).1) (fun i => (Q.getD i (0, ⟨#[]⟩)).2)) := HLR.out.below (below_new1 _ _)
        have hcc : (wr.alloc (.cells #[.string ns] 9)).cell? ⟨wr.heap.size, 0, none⟩ = some (.string ns) := ((Blk.new _ _ _).cell 0).trans rfl
        have HBS : Hid (w.heap.size ≤ (wr.alloc (.cells #[.string ns] 9)).heap.size) := HBA.out.size
        obtain ⟨rl, hrl⟩ : ∃ rl, R.length = rl := ⟨_, rfl⟩
        have HRL : Hid (R.length = rl) := hrl
        rw [hrl] at HOA hRl
        clear hrl HO HLR HBL HTJ HR
        go_wp2_with (first
          | (at_builtin; refine wpList_append_str1 (by rfl) _ _ 46 (by rfl) w.heap.size 9 i0 (.string ⟨#[]⟩) Tryz.underlying46 hi0 hz0 hz1 hz2 rfl _ _ rl (by rfl) (by exact HOA.out) _ _ ns (by rfl) (by exact hcc) (by omega) (by exact HBS.out) (fun v2 U2 ho2 hg2 hb2 => ?_); simp only [Act.put, List.setIfInBounds_toArray, List.set_cons_zero, List.set_cons_succ])
          | fail)
        have HO2 : Hid (U2.ownsRow w.heap.size 9 1 v2 (rl + 1) (((R ++ [(ni, ns)]).map Prod.snd).map Value.string)) := by rw [List.map_append]; exact ho2
        have HB2 : Hid (Below w.heap.size w U2) := HBA.out.trans hb2
        have HL2 : Hid (IsLkC U2 (some ⟨ga, 0, none⟩) n (fun i => (Q.getD i (0, ⟨#[]⟩)).1) (fun i => (Q.getD i (0, ⟨#[]⟩)).2)) := HLA.out.at hg2.size fun b o hb hl => by
          injection hb with hb
          injection hb with hb
          subst hb
          exact hg2.block _ hl fun e => HNE.out e.symm
        have HNE2 : Hid (v2.ownBlock ≠ some ga) := by
          show _ ≠ _
          intro hc
          have hgl := (HLA.out.cs hin).1
          have hlt : ga < (wr.alloc (.cells #[.string ns] 9)).heap.size := World.block_lt_of_cell? _ _ hgl
          have he := hg2.block ga hlt fun e => HNE.out e.symm
          obtain ⟨gv, cv, ev, hB2, _⟩ := kown_form ho2 (by omega)
          subst ev
          simp only [Value.ownBlock] at hc
          injection hc with hc
          subst hc
          have c2 := (HL2.out.cs hin).1
          have c3 := ho2.cellAt 0 (by omega)
          simp only [Nat.zero_add] at c2
          exact nm_apart ho2 HL2.out hin
        clear ho2 hg2 hb2 HOA HBA HLA hcc HBS c0 c1 HNE
        go_wp2_with fail
        go_roundw
        case rel => exact ⟨j + 1, by omega, by first | rfl | go_num | simp, R ++ [(ni, ns)], HRN.out, by rw [List.length_append, HRL.out]; exact HO2.out, HL2.out, HNE2.out, HB2.out⟩
        case measure => simp [intOf]; omega
      · have HRN : Hid (R = (Q.take (j + 1)).filter (fun y => decide (y.1 = q))) := by
          show _ = _
          rw [HTJ.out, List.filter_append, ← HR.out]
          simp [hq]
        clear HTJ HR c1
        go_wp2_with fail
        go_roundw
        case rel => exact ⟨j + 1, by omega, by first | rfl | go_num | simp, R, HRN.out, HO.out, HLR.out, HNE.out, HBL.out⟩
        case measure => simp [intOf]; omega
    · have i1 : ¬ (j : Int) < (n : Int) := by omega
      have HRE : Hid (R = Q.filter (fun y => decide (y.1 = q))) := by
        show _ = _
        rw [HR.out, List.take_of_length_le (by have := HQ.out.1; omega)]
      clear HR HLR HNE
      go_wp2_with fail
      go_ret
      exact ⟨u5, rfl, R, by rw [← List.map_map]; exact HO.out, by rw [HRE.out]; exact List.Pairwise.filter _ HQ.out.2.1, by rw [HRE.out]; exact HQ.out.2.2.filter _, HBL.out⟩
end Go.Proofs.YtojnlmfahgeidaaGreatDoor
