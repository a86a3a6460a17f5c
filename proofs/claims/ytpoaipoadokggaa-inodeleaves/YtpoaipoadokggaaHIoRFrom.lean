/- A leaf's four inodes: the document's FromLeaf. -/
import Derived.Test.YtpoaipoadokggaaHNdOpen
import Derived.Test.YtpoaipoadokggaaHIoNum
import Derived.Laws.BytesString
import Derived.Laws.BytesArg
import Derived.Test.YtpoaipoadokggaaHIoFrom
import Derived.Test.YtpoaipoadokggaaHIoRChkA
import Derived.Handy
import Derived.Laws.AppendOwnNone

namespace Go.Proofs.Ytpoaipoadokggaa
open Go.ChangeShapes Go.WideShapes Go.ChangeAt Go.RowKit Go.Joins
set_option linter.unusedVariables false
set_option linter.unusedSimpArgs false
/-- a slice of bytes that came in -/
def IsB8 (w : World) (a : Option Addr) (N : Nat) (A : Nat → Nat) : Prop :=
  ∀ i, i < N → A i < 256 ∧ ∃ b o, a = some ⟨b, o, none⟩ ∧ b < w.heap.size ∧ w.cell? ⟨b, o + i, none⟩ = some (.int .u8 (A i : Int))
theorem IsB8.below {w w' : World} {a : Option Addr} {N : Nat} {A : Nat → Nat} (h : IsB8 w a N A) (hb : Below w.heap.size w w') : IsB8 w' a N A := fun i hi => by
  obtain ⟨h0, b, o, e, h1, h2⟩ := h i hi
  exact ⟨h0, b, o, e, Nat.lt_of_lt_of_le h1 hb.size, (hb.cell h1).trans h2⟩
set_option maxRecDepth 100000 in
theorem open_ino_cells {H : Type} {enc : TypeId × Value → H} {W : World} {fuel : Nat} {l : List Value} {x : DataW H × List MemPlace} (hl : l.length = 38)
    (hf : DataW.trod enc Try.prog W 0 (fun _ => true) true fuel 31 l = some x) : ∃ y : Ino, l = (inC y).toList ∧ InW y := by
  have hc8 : Try.prog.cellsOf 3 = 1 := by kernel_rfl
  have hcu : Try.prog.cellsOf 22 = 1 := by kernel_rfl
  have hct : Try.prog.cellsOf 29 = 34 := by kernel_rfl
  have hcr : Try.prog.cellsOf 27 = 33 := by kernel_rfl
  obtain ⟨xs, k, hk, hxy, _, hxl, hfs⟩ := DataW.trod_struct Try.underlying31 hf
  match xs, hxl with
  | [y0, y1, y2, y3, y4], _ =>
    have g0 : DataW.trod enc Try.prog W 0 (fun _ => true) true k 3 ((l.drop 0).take (Try.prog.cellsOf 3)) = some y0 := hfs 0 _ rfl
    have g1 : DataW.trod enc Try.prog W 0 (fun _ => true) true k 3 ((l.drop 1).take (Try.prog.cellsOf 3)) = some y1 := hfs 1 _ rfl
    have g2 : DataW.trod enc Try.prog W 0 (fun _ => true) true k 3 ((l.drop 2).take (Try.prog.cellsOf 3)) = some y2 := hfs 2 _ rfl
    have g3 : DataW.trod enc Try.prog W 0 (fun _ => true) true k 22 ((l.drop 3).take (Try.prog.cellsOf 22)) = some y3 := hfs 3 _ rfl
    have g4 : DataW.trod enc Try.prog W 0 (fun _ => true) true k 29 ((l.drop 4).take (Try.prog.cellsOf 29)) = some y4 := hfs 4 _ rfl
    rw [hc8] at g0 g1 g2
    rw [hcu] at g3
    rw [hct] at g4
    obtain ⟨c0, e0, _, w0⟩ := DataW.trod_int Try.underlying3 g0
    obtain ⟨c1, e1, _, w1⟩ := DataW.trod_int Try.underlying3 g1
    obtain ⟨c2, e2, _, w2⟩ := DataW.trod_int Try.underlying3 g2
    obtain ⟨c3, e3, _, w3⟩ := DataW.trod_int Try.underlying22 g3
    have b0 := bounds_i64 w0
    have b1 := bounds_i64 w1
    have b2 := bounds_i64 w2
    have b3 := bounds_u64 w3
    have l0 : l[0]? = some (.int .i64 c0) := nd_take_one e0
    have l1 : l[1]? = some (.int .i64 c1) := nd_take_one e1
    have l2 : l[2]? = some (.int .i64 c2) := nd_take_one e2
    have l3 : l[3]? = some (.int .u64 c3) := nd_take_one e3
    obtain ⟨zs, m, hm, hzy, _, hzl, hgs⟩ := DataW.trod_struct Try.underlying29 g4
    match zs, hzl with
    | [z0, z1], _ =>
      have q0 : DataW.trod enc Try.prog W 0 (fun _ => true) true m 3 ((((l.drop 4).take 34).drop 0).take (Try.prog.cellsOf 3)) = some z0 := hgs 0 _ rfl
      have q1 : DataW.trod enc Try.prog W 0 (fun _ => true) true m 27 ((((l.drop 4).take 34).drop 1).take (Try.prog.cellsOf 27)) = some z1 := hgs 1 _ rfl
      rw [hc8] at q0
      rw [hcr] at q1
      obtain ⟨c4, e4, _, w4⟩ := DataW.trod_int Try.underlying3 q0
      have b4 := bounds_i64 w4
      have l4 : l[4]? = some (.int .i64 c4) := by
        have := nd_take_one e4
        rw [List.getElem?_take, if_pos (by decide), List.getElem?_drop] at this
        exact this
      obtain ⟨r, h0, h1, h2⟩ := open_ref_cells (by rw [List.length_take, List.length_drop, List.length_take, List.length_drop, hl]; decide) q1
      refine ⟨⟨c0, c1, c2, c3.toNat, c4, r⟩, ?_, ⟨b0, b1, b2, by show c3.toNat < _; omega, b4, h1, h2⟩⟩
      apply List.ext_getElem?
      intro i
      by_cases hi : i < 38
      · have hr : (inC ⟨c0, c1, c2, c3.toNat, c4, r⟩).toList[i]? = some (inF ⟨c0, c1, c2, c3.toNat, c4, r⟩ i) := by
          have := va_at (inF ⟨c0, c1, c2, c3.toNat, c4, r⟩) hi
          unfold inC
          simpa using this
        rw [hr]
        unfold inF tiF
        by_cases i0 : i = 0
        · subst i0
          rw [if_pos rfl, l0]
        rw [if_neg i0]
        by_cases i1 : i = 1
        · subst i1
          rw [if_pos rfl, l1]
        rw [if_neg i1]
        by_cases i2 : i = 2
        · subst i2
          rw [if_pos rfl, l2]
        rw [if_neg i2]
        by_cases i3 : i = 3
        · subst i3
          rw [if_pos rfl, l3]
          congr 2
          show c3 = ((c3.toNat : Nat) : Int)
          omega
        rw [if_neg i3]
        by_cases i4 : i = 4
        · subst i4
          rw [if_pos rfl, l4]
        rw [if_neg (by omega)]
        have h4 := congrArg (fun z => z[i - 5]?) h0
        simp only [List.getElem?_take, List.getElem?_drop] at h4
        rw [if_pos (by omega), if_pos (by omega), show 4 + (1 + (i - 5)) = i by omega] at h4
        rw [h4, show i - 4 - 1 = i - 5 by omega]
        have := va_at (rfF r.1 r.2) (show i - 5 < 33 by omega)
        unfold rfC
        simpa using this
      · rw [List.getElem?_eq_none (by omega), List.getElem?_eq_none (by rw [Array.length_toList, inC_size]; omega)]
set_option maxRecDepth 100000 in
theorem open_inos {H : Type} {enc : TypeId × Value → H} {W : World} {r : Reach} {b0 : Nat} {v : Value} {d : DataW H} {p : List MemPlace}
    (hv : Value.okWide Try.prog W r b0 58 v) (h : DataW.Trod enc Try.prog W 0 (fun _ => true) true 58 v d p) : ∃ L : Nat → Ino, v = .agg (foC L) ∧ ∀ i, i < 4 → InW (L i) := by
  obtain ⟨cs, rfl, hcs⟩ := okWide_array Try.underlying58 hv
  obtain ⟨fuel, hf0⟩ := h
  have hc : Try.prog.cellsOf 58 = 152 := by kernel_rfl
  have hci : Try.prog.cellsOf 31 = 38 := by kernel_rfl
  rw [hc] at hcs
  have hl : cs.toList.length = 152 := by rw [Array.length_toList]; exact hcs
  have hf : DataW.trod enc Try.prog W 0 (fun _ => true) true fuel 58 cs.toList = some (d, p) := hf0
  obtain ⟨zs, m, hm, hx, hzl, hn, hall⟩ := DataW.trod_array Try.underlying58 hf
  have each : ∀ i, i < 4 → ∃ y : Ino, ((cs.toList.drop (i * 38)).take 38) = (inC y).toList ∧ InW y := fun i hi => by
    have h1 := hall i hi
    have hget : zs[i]? = some zs[i] := List.getElem?_eq_getElem (by omega)
    rw [hget, hci] at h1
    refine open_ino_cells ?_ h1
    rw [List.length_take, List.length_drop, hl]
    omega
  obtain ⟨L, hLz⟩ : ∃ L : Nat → Ino, ∀ i, i < 4 → ((cs.toList.drop (i * 38)).take 38) = (inC (L i)).toList ∧ InW (L i) := ⟨fun i => if h : i < 4 then Classical.choose (each i h) else in0, fun i hi => by
    simp only [dif_pos hi]
    exact Classical.choose_spec (each i hi)⟩
  refine ⟨L, ?_, fun i hi => (hLz i hi).2⟩
  congr 1
  apply Array.toList_inj.1
  apply List.ext_getElem?
  intro j
  by_cases hj : j < 152
  · have hr : (foC L).toList[j]? = some (foF L j) := by
      have := va_at (foF L) hj
      unfold foC
      simpa using this
    rw [hr]
    obtain ⟨i, q, hq, rfl⟩ : ∃ i q, q < 38 ∧ j = i * 38 + q := ⟨j / 38, j % 38, Nat.mod_lt _ (by decide), by omega⟩
    have hi : i < 4 := by omega
    rw [foF_at L i q hq]
    have h2 := (hLz i hi).1
    have h3 : (inC (L i)).toList[q]? = some (inF (L i) q) := by
      have := va_at (inF (L i)) hq
      unfold inC
      simpa using this
    rw [← h2, List.getElem?_take, if_pos hq, List.getElem?_drop] at h3
    exact h3
  · rw [List.getElem?_eq_none (by omega), List.getElem?_eq_none (by rw [Array.length_toList, foC_size]; omega)]
end Go.Proofs.Ytpoaipoadokggaa

namespace Go.Proofs.Ytpoaipoadokggaa
open Go Go.RowKit
set_option linter.unusedSimpArgs false
set_option linter.unusedVariables false
set_option maxRecDepth 20000
def inA : Ino := ⟨2, 1, 0, 7, 0, rf0⟩
theorem built_inA : Try.prog.built 31 [(0, .int .i64 2), (1, .int .i64 1), (3, .int .u64 7)] = some (inC inA) := by kernel_rfl
theorem inA_ok : chk inA = true := by decide
theorem inA_w : InW inA := ⟨by decide, by decide, by decide, by decide, by decide, by decide, okD_zero⟩
theorem wpList_build3 {P : Program} {ops : Array Oper} {rest : List Oper} {o : Oper} {a : Act} {w : World} {Q : Exit → Act → World → Prop} (hg : o.guard = none) (t : TypeId) (i0 i1 i2 : Nat) (x0 x1 x2 : Operand) (ho : o.op = .build t #[(i0, x0), (i1, x1), (i2, x2)]) (v0 v1 v2 : Value) (h0 : a.eval x0 = v0) (h1 : a.eval x1 = v1) (h2 : a.eval x2 = v2)
    (cells : Array Value) (hf : P.built t [(i0, v0), (i1, v1), (i2, v2)] = some cells) (h : wpList P ops Q rest (a.put o.dst (.agg cells)) w) : wpList P ops Q (o :: rest) a w := by
  refine wpList_buildTo hg t _ ho o.dst rfl cells ?_ h
  have e : (Array.map (fun (x : Nat × Operand) => match x with | (i, x) => (i, a.eval x)) #[(i0, x0), (i1, x1), (i2, x2)]).toList = [(i0, v0), (i1, v1), (i2, v2)] := by simp [h0, h1, h2]
  rw [e]
  exact hf
set_option maxHeartbeats 2000000 in
theorem awake14_any (w : World) : Calls Try.prog 7 #[] w fun e w' => e = .returned (.bool true) ∧ Below w.heap.size w w' := by
  have HH : Hid (∀ w : World, Calls Try.prog 14 #[.int .i64 1025] w fun e w' => e = .returned (.tuple #[.int .i64 2, .int .i64 0]) ∧ w' = w) := fun w => by
    have := height_any 1025 (by decide) w
    rw [if_pos (by decide), show hL 256 1025 = 2 from by decide] at this
    exact this
  have HE : Hid (∀ w : World, Calls Try.prog 8 #[.agg (inC inA)] w fun e w' => ∃ g, e = .returned (.tuple #[.slice (some ⟨g, 0, none⟩) 64 64, .int .i64 0]) ∧ Below w.heap.size w w') := fun w => (encode_ok inA inA_w inA_ok w).mono fun e w' ⟨g, h1, _, _, h2⟩ => ⟨g, h1, h2⟩
  have hbi := built_inA
  generalize inC inA = cs at *
  go_enter Try.func7, Try.ntmps7
  go_wp2_with fail
  refine (HH.out _).mono ?_
  intro e w1 hw1
  obtain ⟨he1, hb1⟩ := hw1
  subst he1 hb1
  go_wp2_with (first
    | (refine wpList_build3 (by rfl) 31 _ _ _ _ _ _ (by rfl) (.int .i64 2) (.int .i64 1) (.int .u64 7) (by rfl) (by rfl) (by rfl) cs hbi ?_; simp only [Act.put, List.setIfInBounds_toArray, List.set_cons_zero, List.set_cons_succ])
    | fail)
  refine (HE.out _).mono ?_
  intro e w2 hw2
  obtain ⟨g, he2, hb2⟩ := hw2
  subst he2
  go_wp2_with fail
  go_ret
  exact ⟨rfl, hb2⟩
end Go.Proofs.Ytpoaipoadokggaa

namespace Go.Proofs.Ytpoaipoadokggaa
set_option maxRecDepth 20000
open Go Go.RowKit
set_option linter.unusedVariables false
set_option linter.unusedSimpArgs false
theorem sizeRFo : (Try.prog.info? 65).map (·.size) = some 152 := by kernel_rfl
theorem zero_rfo (w : World) : (zeroValue 65).run Try.prog w = .ok (.agg (foC fun _ => in0)) w := zero_of (by kernel_rfl) w
/-- what the document's FromLeaf tells: the first that is none, or -1 -/
def rbI (c : Nat → Bool) : Int := if bdF c = 4 then -1 else (bdF c : Nat)
theorem pc_extract (f : Nat → Nat) (hf : ∀ i, f i < 256) (p : Nat) (hp : p < 4) : (strN f 256).extract (64 * p) (64 * p + 64) = pcB f p := by
  have hz : (strN f 256).size = 256 := strN_size _ _
  refine text_ext (by rw [extract_size _ _ _ (by omega), pcB_size]; omega) fun j hj => ?_
  rw [extract_size _ _ _ (by omega)] at hj
  rw [tbyte_extract0 _ _ 64 j (by omega), strN_at _ _ _ (by omega) (hf _)]
  unfold pcB
  rw [strN_at (fun j => f (p * 64 + j)) 64 j (by omega) (hf _), Nat.mul_comm]
set_option maxHeartbeats 4000000 in
theorem rfrom14_any (f : Nat → Nat) (hf : ∀ i, f i < 256) (w : World) : Calls Try.prog 23 #[.string (strN f 256)] w fun e w' => e = .returned (.tuple #[.agg (foC (frL f)), .int .i64 (rbI (pcA f))]) ∧ Below w.heap.size w w' := by
  have hz := zero_rfo
  have hzi := zero_rino
  have q0 : Blk ((w.alloc (.cells (foC fun _ => in0) 65)).alloc (.cells (foC fun _ => in0) 65)) (w.heap.size + 1) 65 (foC fun _ => in0) := Blk.new1 _ _ _ _
  have H0 : Hid (Blk (((w.alloc (.cells (foC fun _ => in0) 65)).alloc (.cells (foC fun _ => in0) 65)).setRow (w.heap.size + 1) (foC fun _ => in0)) w.heap.size 65 (foC fun _ => in0) ∧ Blk (((w.alloc (.cells (foC fun _ => in0) 65)).alloc (.cells (foC fun _ => in0) 65)).setRow (w.heap.size + 1) (foC fun _ => in0)) (w.heap.size + 1) 65 (foC fun _ => in0) ∧ Below w.heap.size w (((w.alloc (.cells (foC fun _ => in0) 65)).alloc (.cells (foC fun _ => in0) 65)).setRow (w.heap.size + 1) (foC fun _ => in0))) :=
    ⟨((Blk.new _ _ _).alloc _).other _ (by omega), q0.set _, below_setRow (below_new2 _ _ _) (by omega) _⟩
  have HBD : Hid (∀ p, p < 4 → (∀ q, q < p → decOk (pcB f q) = true) → decOk (pcB f p) = false → foC (frL f) = (foC fun _ => in0) ∧ rbI (pcA f) = (p : Int)) := fun p hp h1 h2 => by
    have hb := bd_bad (c := pcA f) hp h1 h2
    unfold frL rbI
    rw [hb, if_neg (by omega), if_neg (by omega)]
    exact ⟨rfl, rfl⟩
  have HGD : Hid ((∀ q, q < 4 → decOk (pcB f q) = true) → foC (frL f) = foC (upL f 4) ∧ rbI (pcA f) = -1) := fun h1 => by
    have hb := bd_ok (c := pcA f) h1
    refine ⟨fo_congr fun i hi => ?_, ?_⟩
    · unfold frL upL
      rw [hb, if_pos rfl, if_pos hi]
    · unfold rbI
      rw [hb]
      rfl
  generalize foC (frL f) = OB at *
  generalize rbI (pcA f) = OA at *
  go_enter Try.func23, Try.ntmps23
  go_wp2_with (first
    | (refine wpList_store_row (by rfl) 65 _ _ (by rfl) (w.heap.size + 1) (foC fun _ => in0) (by rfl) (by rfl) 65 (foC fun _ => in0) (by exact q0) (sizeRFo.trans (by rw [foC_size])) (by simp only [foC_size]) (foC_all _) ?_; simp only [Act.put, List.setIfInBounds_toArray, List.set_cons_zero, List.set_cons_succ])
    | fail)
  clear q0
  generalize (((w.alloc (.cells (foC fun _ => in0) 65)).alloc (.cells (foC fun _ => in0) 65)).setRow (w.heap.size + 1) (foC fun _ => in0)) = w1 at *
  go_loopw [5] (fun i wr => Hid (∃ p : Nat, p ≤ 4 ∧ i = .int .i64 (p : Int) ∧ (∀ q, q < p → decOk (pcB f q) = true) ∧ Blk wr w.heap.size 65 (foC fun _ => in0) ∧ Blk wr (w.heap.size + 1) 65 (va 152 (foF (upL f p))) ∧ Below w.heap.size w wr)) (fun i _ => 4 - (intOf i).toNat)
  case atStart => exact ⟨0, by omega, rfl, fun q hq => by omega, H0.out.1, H0.out.2.1, H0.out.2.2⟩
  case round =>
    obtain ⟨p, hp, rfl, hok, c1, c2, hb⟩ := Hid.out hrel
    clear hrel H0
    by_cases h4 : p < 4
    · have p1 : (p : Int) < 4 := by omega
      have HDp : Hid (∀ w : World, Calls Try.prog 13 #[.string ((strN f 256).extract (64 * p) (64 * p + 64))] w fun e w' => e = .returned (.tuple #[.agg (inC (decV (pcB f p))), .bool (decOk (pcB f p))]) ∧ Below w.heap.size w w') := fun w => by
        rw [pc_extract f hf p h4]
        exact rdecode_any (pcB f p) (by rw [pcB_size]; decide) w
      have HBDp := HBD.out p h4 hok
      have HOK : Hid (∀ q, q < p → decOk (pcB f q) = true) := hok
      have HB0 : Hid (Blk wr w.heap.size 65 (foC fun _ => in0) ∧ Blk wr (w.heap.size + 1) 65 (va 152 (foF (upL f p))) ∧ Below w.heap.size w wr) := ⟨c1, c2, hb⟩
      have HU : Hid (va 152 (over (foF (upL f p)) (p * 38) (inC (decV (pcB f p))).toList) = va 152 (foF (upL f (p + 1)))) := by
        show _ = _
        rw [fo_over _ p _ h4, upL_step]
      clear c1 c2 hb hok HBD HGD
      have z256 : (strN f 256).size = 256 := strN_size _ _
      generalize strN f 256 = tx at *
      have zI : (tx.size : Int) = 256 := by omega
      have a1 : (64 : Int) * (p : Int) + 64 ≤ 256 := by omega
      have a2 : (0 : Int) ≤ 64 * (p : Int) := by omega
      have a3 : ((64 : Int) * (p : Int)).toNat = 64 * p := by omega
      have a4 : ((64 : Int) * (p : Int) + 64).toNat = 64 * p + 64 := by omega
      go_wp2_with fail
      refine (HDp.out _).mono ?_
      intro e w2 hw2
      obtain ⟨he2, hb2⟩ := hw2
      subst he2
      have HB1 : Hid (Blk w2 w.heap.size 65 (foC fun _ => in0) ∧ Blk w2 (w.heap.size + 1) 65 (va 152 (foF (upL f p))) ∧ Below w.heap.size w w2) := ⟨HB0.out.1.below hb2 HB0.out.1.lt, HB0.out.2.1.below hb2 HB0.out.2.1.lt, HB0.out.2.2.trans (hb2.mono HB0.out.2.2.size)⟩
      clear hb2 HB0 HDp
      have HRS : (inC (decV (pcB f p))).size = 38 := inC_size _
      have HRA : Hid ((inC (decV (pcB f p))).all (·.oneCell') = true) := inC_all _
      generalize inC (decV (pcB f p)) = rc at *
      have q1 : Blk (w2.alloc (.cells (inC in0) 44)) w2.heap.size 44 (inC in0) := Blk.new _ _ _
      have q2 : Blk ((w2.alloc (.cells (inC in0) 44)).setRow w2.heap.size rc) w2.heap.size 44 rc := q1.set _
      have d2 : Blk ((w2.alloc (.cells (inC in0) 44)).setRow w2.heap.size rc) (w.heap.size + 1) 65 (va 152 (foF (upL f p))) := (HB1.out.2.1.alloc _).other _ (by have := HB1.out.2.1.lt; omega)
      have d1 : Blk ((w2.alloc (.cells (inC in0) 44)).setRow w2.heap.size rc) w.heap.size 65 (foC fun _ => in0) := (HB1.out.1.alloc _).other _ (by have := HB1.out.1.lt; omega)
      have HB2 : Hid (Below w.heap.size w ((w2.alloc (.cells (inC in0) 44)).setRow w2.heap.size rc)) := below_setRow (HB1.out.2.2.alloc HB1.out.2.2.size _) HB1.out.2.2.size _
      have hn2 : w.heap.size + 1 < w2.heap.size := HB1.out.2.1.lt
      clear HB1
      cases hc : decOk (pcB f p)
      · obtain ⟨e1, e2⟩ := HBDp hc
        have HF : Hid (OB = (foC fun _ => in0) ∧ OA = (p : Int)) := ⟨e1, e2⟩
        clear e1 e2 HBDp HU d2
        go_wp2_with (first
          | (refine wpList_store_row (by rfl) 44 _ _ (by rfl) (w2.heap.size) rc (by rfl) (by rfl) 44 (inC in0) (by exact q1) (sizeRIno.trans (by rw [HRS])) (by simp only [inC_size, HRS]) (HRA.out) ?_; simp only [Act.put, List.setIfInBounds_toArray, List.set_cons_zero, List.set_cons_succ])
          | (refine wpList_store_row (by rfl) 65 _ _ (by rfl) (w.heap.size) (foC fun _ => in0) (by rfl) (by rfl) 65 (foC fun _ => in0) (by exact d1) (sizeRFo.trans (by rw [foC_size])) (by simp only [foC_size]) (foC_all _) ?_; simp only [Act.put, List.setIfInBounds_toArray, List.set_cons_zero, List.set_cons_succ])
          | fail)
        try simp only [Exit.inBlock, Exit.then]
        refine bodyPost_ret (results_row2 Try.results23 _ _ (w.heap.size) 65 (foC fun _ => in0) (0, 0) _ rfl (d1.set _) Try.underlying65 rfl (sizeRFo.trans (by rw [foC_size]))) rfl ?_
        exact ⟨by rw [HF.out.1, HF.out.2]; rfl, below_setRow HB2.out (by omega) _⟩
      · have HOK2 : Hid (∀ q, q < p + 1 → decOk (pcB f q) = true) := fun q hq => by
          by_cases e : q = p
          · subst e; exact hc
          · exact HOK.out q (by omega)
        clear HBDp HOK
        go_wp2_with (first
          | (refine wpList_store_row (by rfl) 44 _ _ (by rfl) (w2.heap.size) rc (by rfl) (by rfl) 44 (inC in0) (by exact q1) (sizeRIno.trans (by rw [HRS])) (by simp only [inC_size, HRS]) (HRA.out) ?_; simp only [Act.put, List.setIfInBounds_toArray, List.set_cons_zero, List.set_cons_succ])
          | (refine wpList_load_row (by rfl) 44 _ (by rfl) (w2.heap.size) (by rfl) 44 rc (0, 0) _ (by exact q2) Try.underlying44 (by rfl) (sizeRIno.trans (by rw [HRS])) ?_; simp only [Act.put, List.setIfInBounds_toArray, List.set_cons_zero, List.set_cons_succ])
          | (refine wpList_store_mid (by rfl) 44 _ _ (by rfl) (w.heap.size + 1) (p * 38) rc (by rfl) (by rfl) (by exact d2.there (p * 38) _ (by rw [HRS, va_size]; omega)) (sizeRIno.trans (by rw [HRS])) (HRA.out) ?_; simp only [Act.put, List.setIfInBounds_toArray, List.set_cons_zero, List.set_cons_succ])
          | fail)
        go_roundw
        case rel =>
          refine ⟨p + 1, by omega, by simp, HOK2.out, d1.cells_other (by omega) _ _ _, ?_, below_setCells (by omega) _ _ _ HB2.out⟩
          rw [← HU.out]
          exact d2.cells_put _ _ _
        case measure => simp [intOf]; omega
    · have e : p = 4 := by omega
      subst e
      obtain ⟨e1, e2⟩ := HGD.out hok
      have HF : Hid (OB = foC (upL f 4) ∧ OA = -1) := ⟨e1, e2⟩
      have HB4 : Hid (Below w.heap.size w wr) := hb
      have c2' : Blk wr (w.heap.size + 1) 65 (foC (upL f 4)) := c2
      clear e1 e2 HBD HGD hok hb c2
      go_wp2_with (first
        | (refine wpList_load_row (by rfl) 65 _ (by rfl) (w.heap.size + 1) (by rfl) 65 (foC (upL f 4)) (0, 0) _ (by exact c2') Try.underlying65 (by rfl) (sizeRFo.trans (by rw [foC_size])) ?_; simp only [Act.put, List.setIfInBounds_toArray, List.set_cons_zero, List.set_cons_succ])
        | (refine wpList_store_row (by rfl) 65 _ _ (by rfl) (w.heap.size) (foC (upL f 4)) (by rfl) (by rfl) 65 (foC fun _ => in0) (by exact c1) (sizeRFo.trans (by rw [foC_size])) (by simp only [foC_size]) (foC_all _) ?_; simp only [Act.put, List.setIfInBounds_toArray, List.set_cons_zero, List.set_cons_succ])
        | fail)
      try simp only [Exit.inBlock, Exit.then]
      refine bodyPost_ret (results_row2 Try.results23 _ _ (w.heap.size) 65 (foC (upL f 4)) (0, 0) _ rfl (c1.set _) Try.underlying65 rfl (sizeRFo.trans (by rw [foC_size]))) rfl ?_
      exact ⟨by rw [HF.out.1, HF.out.2]; rfl, below_setRow HB4.out (by omega) _⟩
end Go.Proofs.Ytpoaipoadokggaa
