/- Inodes in bytes: the statement. -/
import Derived.Test.YtpoaipoadokggaaHNdOpen
import Derived.Test.YtpoaipoadokggaaHIoNum
import Derived.Laws.BytesString
import Derived.Laws.BytesArg
import Derived.Test.YtpoaipoadokggaaHIoRChkA
import Derived.Handy
import Derived.Laws.AppendOwnNone

namespace Go.Proofs.Ytpoaipoadokggaa
open Go.ChangeShapes Go.WideShapes Go.ChangeAt Go.RowKit Go.Joins
set_option linter.unusedVariables false
set_option linter.unusedSimpArgs false
/-- a slice of bytes that came in -/
def IsB8 (w : World) (a : Option Addr) (N : Nat) (A : Nat → Nat) : Prop :=
  ∀ i, i < N → A i < 256 ∧ ∃ b o, a = some ⟨b, o, none⟩ ∧ b < w.heap.size ∧ w.cell? ⟨b, o + i, none⟩ = some (.int .u8 (A i : Int))
theorem IsB8.below {w w' : World} {a : Option Addr} {N : Nat} {A : Nat → Nat} (h : IsB8 w a N A) (hb : Below w.heap.size w w') : IsB8 w' a N A := fun i hi => by
  obtain ⟨h0, b, o, e, h1, h2⟩ := h i hi
  exact ⟨h0, b, o, e, Nat.lt_of_lt_of_le h1 hb.size, (hb.cell h1).trans h2⟩
theorem IsB8.isB {w : World} {a : Option Addr} {N c : Nat} {A : Nat → Nat} (h : IsB8 w a N A) : IsB w (.slice a N c) (strN A N) := fun W hW => by
  by_cases h0 : 0 < N
  · obtain ⟨_, b, o, rfl, _, _⟩ := h 0 h0
    have h2 := h.below hW
    exact run_convert_bytes_arg W 32 5 Try.underlying32 Try.underlying5 b o N c ((List.range N).map fun i => (A i : Int)) (by simp) (fun i hi => by
      obtain ⟨_, b', o', e, _, h3⟩ := h2 i hi
      cases e
      rw [h3]
      simp [List.getD_eq_getElem?_getD, hi]) 9 Try.underlying9
  · obtain rfl : N = 0 := by omega
    rw [run_convert_bytes_string W 32 9 5 a 0 c Try.underlying32 Try.underlying5 Try.underlying9]
    cases a <;> first | rfl | simp [Conv.bytesToString, strN]
set_option maxRecDepth 100000 in
theorem open_b8s {H : Type} {enc : TypeId × Value → H} {W : World} {a0 : Option Addr} {len cap fuel : Nat} {x : DataW H × List MemPlace}
    (hf : DataW.trod enc Try.prog W 0 (fun _ => true) true fuel 32 [.slice a0 len cap] = some x) (hsz : ∀ n ∈ x.1.weights Try.prog 32, n ≤ reachBytes) :
    ∃ (A : Nat → Nat), len ≤ 140737488351232 ∧ IsB8 W a0 len A ∧ (a0 = none → len = 0 ∧ cap = 0) := by
  rcases Deep.open_slice Try.underlying32 hf with ⟨hcs, hx⟩ | ⟨a, len', cap', m, n, D, Pl, hcs, _, hl, hm, hmm, hx, hel⟩
  · simp at hcs
    obtain ⟨rfl, rfl, rfl⟩ := hcs
    exact ⟨fun _ => 0, by omega, fun i hi => absurd hi (by omega), fun _ => ⟨rfl, rfl⟩⟩
  · simp at hcs
    obtain ⟨rfl, rfl, rfl⟩ := hcs
    subst hx
    simp only [if_true] at hmm
    subst hmm
    have hu := Try.underlying32
    have hby : Try.prog.bytesOf 5 = 1 := by kernel_rfl
    have hw0 := hsz ((((List.range len).map D).length + ((List.range (m - len)).map fun j => D (len + j)).length) * Try.prog.bytesOf 5) (by simp [DataW.weights, hu])
    rw [hby] at hw0
    simp only [List.length_map, List.length_range] at hw0
    have hlen4 : len ≤ 140737488351232 := by
      unfold reachBytes at hw0
      omega
    have hce : Try.prog.cellsOf 5 = 1 := by kernel_rfl
    have hsp : 0 < len → a.spot = none := fun h0 => by
      obtain ⟨cs', h1, _⟩ := hel 0 (by omega)
      rw [hce] at h1
      obtain ⟨_, hcl, hcell⟩ := World.cells?_some h1
      match cs', hcl with
      | [v0], _ => simpa [Addr.add] using World.cell?_spot (hcell 0 (by omega))
    have each : ∀ i, ∃ q : Nat, i < len → q < 256 ∧ ∃ b o, a = ⟨b, o, none⟩ ∧ b < W.heap.size ∧ W.cell? ⟨b, o + i, none⟩ = some (.int .u8 (q : Int)) := by
      intro i
      by_cases hi : i < len
      · obtain ⟨cs', h1, h2⟩ := hel i (by omega)
        rw [hce] at h1
        obtain ⟨_, hcl, hcell⟩ := World.cells?_some h1
        match cs', hcl with
        | [v0], _ =>
          obtain ⟨p, e0, _, w0⟩ := DataW.trod_int Try.underlying5 h2
          simp at e0
          subst e0
          have hbd := bounds_u8 w0
          obtain ⟨q, rfl⟩ := Int.eq_ofNat_of_zero_le hbd.1
          refine ⟨q, fun _ => ⟨by omega, ?_⟩⟩
          have c0 := hcell 0 (by decide)
          obtain ⟨b, off, spot⟩ := a
          have hspot : spot = none := hsp (by omega)
          subst hspot
          simp only [Addr.add_mid, List.getElem?_cons_zero, Nat.mul_one, Nat.add_zero] at c0
          exact ⟨b, off, rfl, kcell_lt c0, c0⟩
      · exact ⟨0, fun h => absurd h hi⟩
    refine ⟨fun i => Classical.choose (each i), hlen4, fun i hi => ?_, fun h => by cases h⟩
    obtain ⟨hq, b, o, rfl, h1, h2⟩ := Classical.choose_spec (each i) hi
    exact ⟨hq, b, o, rfl, h1, h2⟩
set_option maxRecDepth 100000 in
theorem open_ino_cells {H : Type} {enc : TypeId × Value → H} {W : World} {fuel : Nat} {l : List Value} {x : DataW H × List MemPlace} (hl : l.length = 38)
    (hf : DataW.trod enc Try.prog W 0 (fun _ => true) true fuel 31 l = some x) : ∃ y : Ino, l = (inC y).toList ∧ InW y := by
  have hc8 : Try.prog.cellsOf 3 = 1 := by kernel_rfl
  have hcu : Try.prog.cellsOf 22 = 1 := by kernel_rfl
  have hct : Try.prog.cellsOf 29 = 34 := by kernel_rfl
  have hcr : Try.prog.cellsOf 27 = 33 := by kernel_rfl
  obtain ⟨xs, k, hk, hxy, _, hxl, hfs⟩ := DataW.trod_struct Try.underlying31 hf
  match xs, hxl with
  | [y0, y1, y2, y3, y4], _ =>
    have g0 : DataW.trod enc Try.prog W 0 (fun _ => true) true k 3 ((l.drop 0).take (Try.prog.cellsOf 3)) = some y0 := hfs 0 _ rfl
    have g1 : DataW.trod enc Try.prog W 0 (fun _ => true) true k 3 ((l.drop 1).take (Try.prog.cellsOf 3)) = some y1 := hfs 1 _ rfl
    have g2 : DataW.trod enc Try.prog W 0 (fun _ => true) true k 3 ((l.drop 2).take (Try.prog.cellsOf 3)) = some y2 := hfs 2 _ rfl
    have g3 : DataW.trod enc Try.prog W 0 (fun _ => true) true k 22 ((l.drop 3).take (Try.prog.cellsOf 22)) = some y3 := hfs 3 _ rfl
    have g4 : DataW.trod enc Try.prog W 0 (fun _ => true) true k 29 ((l.drop 4).take (Try.prog.cellsOf 29)) = some y4 := hfs 4 _ rfl
    rw [hc8] at g0 g1 g2
    rw [hcu] at g3
    rw [hct] at g4
    obtain ⟨c0, e0, _, w0⟩ := DataW.trod_int Try.underlying3 g0
    obtain ⟨c1, e1, _, w1⟩ := DataW.trod_int Try.underlying3 g1
    obtain ⟨c2, e2, _, w2⟩ := DataW.trod_int Try.underlying3 g2
    obtain ⟨c3, e3, _, w3⟩ := DataW.trod_int Try.underlying22 g3
    have b0 := bounds_i64 w0
    have b1 := bounds_i64 w1
    have b2 := bounds_i64 w2
    have b3 := bounds_u64 w3
    have l0 : l[0]? = some (.int .i64 c0) := nd_take_one e0
    have l1 : l[1]? = some (.int .i64 c1) := nd_take_one e1
    have l2 : l[2]? = some (.int .i64 c2) := nd_take_one e2
    have l3 : l[3]? = some (.int .u64 c3) := nd_take_one e3
    obtain ⟨zs, m, hm, hzy, _, hzl, hgs⟩ := DataW.trod_struct Try.underlying29 g4
    match zs, hzl with
    | [z0, z1], _ =>
      have q0 : DataW.trod enc Try.prog W 0 (fun _ => true) true m 3 ((((l.drop 4).take 34).drop 0).take (Try.prog.cellsOf 3)) = some z0 := hgs 0 _ rfl
      have q1 : DataW.trod enc Try.prog W 0 (fun _ => true) true m 27 ((((l.drop 4).take 34).drop 1).take (Try.prog.cellsOf 27)) = some z1 := hgs 1 _ rfl
      rw [hc8] at q0
      rw [hcr] at q1
      obtain ⟨c4, e4, _, w4⟩ := DataW.trod_int Try.underlying3 q0
      have b4 := bounds_i64 w4
      have l4 : l[4]? = some (.int .i64 c4) := by
        have := nd_take_one e4
        rw [List.getElem?_take, if_pos (by decide), List.getElem?_drop] at this
        exact this
      obtain ⟨r, h0, h1, h2⟩ := open_ref_cells (by rw [List.length_take, List.length_drop, List.length_take, List.length_drop, hl]; decide) q1
      refine ⟨⟨c0, c1, c2, c3.toNat, c4, r⟩, ?_, ⟨b0, b1, b2, by show c3.toNat < _; omega, b4, h1, h2⟩⟩
      apply List.ext_getElem?
      intro i
      by_cases hi : i < 38
      · have hr : (inC ⟨c0, c1, c2, c3.toNat, c4, r⟩).toList[i]? = some (inF ⟨c0, c1, c2, c3.toNat, c4, r⟩ i) := by
          have := va_at (inF ⟨c0, c1, c2, c3.toNat, c4, r⟩) hi
          unfold inC
          simpa using this
        rw [hr]
        unfold inF tiF
        by_cases i0 : i = 0
        · subst i0
          rw [if_pos rfl, l0]
        rw [if_neg i0]
        by_cases i1 : i = 1
        · subst i1
          rw [if_pos rfl, l1]
        rw [if_neg i1]
        by_cases i2 : i = 2
        · subst i2
          rw [if_pos rfl, l2]
        rw [if_neg i2]
        by_cases i3 : i = 3
        · subst i3
          rw [if_pos rfl, l3]
          congr 2
          show c3 = ((c3.toNat : Nat) : Int)
          omega
        rw [if_neg i3]
        by_cases i4 : i = 4
        · subst i4
          rw [if_pos rfl, l4]
        rw [if_neg (by omega)]
        have h4 := congrArg (fun z => z[i - 5]?) h0
        simp only [List.getElem?_take, List.getElem?_drop] at h4
        rw [if_pos (by omega), if_pos (by omega), show 4 + (1 + (i - 5)) = i by omega] at h4
        rw [h4, show i - 4 - 1 = i - 5 by omega]
        have := va_at (rfF r.1 r.2) (show i - 5 < 33 by omega)
        unfold rfC
        simpa using this
      · rw [List.getElem?_eq_none (by omega), List.getElem?_eq_none (by rw [Array.length_toList, inC_size]; omega)]
set_option maxRecDepth 100000 in
theorem open_ino {H : Type} {enc : TypeId × Value → H} {W : World} {r : Reach} {b0 : Nat} {v : Value} {d : DataW H} {p : List MemPlace}
    (hv : Value.okWide Try.prog W r b0 31 v) (h : DataW.Trod enc Try.prog W 0 (fun _ => true) true 31 v d p) : ∃ y : Ino, v = .agg (inC y) ∧ InW y := by
  obtain ⟨cs, rfl, hcs⟩ := okWide_struct Try.underlying31 hv
  obtain ⟨fuel, hf⟩ := h
  have hc : Try.prog.cellsOf 31 = 38 := by kernel_rfl
  rw [hc] at hcs
  have hl : cs.toList.length = 38 := by rw [Array.length_toList]; exact hcs
  obtain ⟨y, h0, h1⟩ := open_ino_cells hl (show DataW.trod enc Try.prog W 0 (fun _ => true) true fuel 31 cs.toList = some (d, p) from hf)
  refine ⟨y, ?_, h1⟩
  congr 1
  exact Array.toList_inj.1 h0
end Go.Proofs.Ytpoaipoadokggaa

namespace Go.Proofs.Ytpoaipoadokggaa
open Go Go.RowKit
set_option linter.unusedSimpArgs false
set_option linter.unusedVariables false
set_option maxRecDepth 20000
def inA : Ino := ⟨2, 1, 0, 7, 0, rf0⟩
theorem built_inA : Try.prog.built 31 [(0, .int .i64 2), (1, .int .i64 1), (3, .int .u64 7)] = some (inC inA) := by kernel_rfl
theorem inA_ok : chk inA = true := by decide
theorem inA_w : InW inA := ⟨by decide, by decide, by decide, by decide, by decide, by decide, okD_zero⟩
theorem wpList_build3 {P : Program} {ops : Array Oper} {rest : List Oper} {o : Oper} {a : Act} {w : World} {Q : Exit → Act → World → Prop} (hg : o.guard = none) (t : TypeId) (i0 i1 i2 : Nat) (x0 x1 x2 : Operand) (ho : o.op = .build t #[(i0, x0), (i1, x1), (i2, x2)]) (v0 v1 v2 : Value) (h0 : a.eval x0 = v0) (h1 : a.eval x1 = v1) (h2 : a.eval x2 = v2)
    (cells : Array Value) (hf : P.built t [(i0, v0), (i1, v1), (i2, v2)] = some cells) (h : wpList P ops Q rest (a.put o.dst (.agg cells)) w) : wpList P ops Q (o :: rest) a w := by
  refine wpList_buildTo hg t _ ho o.dst rfl cells ?_ h
  have e : (Array.map (fun (x : Nat × Operand) => match x with | (i, x) => (i, a.eval x)) #[(i0, x0), (i1, x1), (i2, x2)]).toList = [(i0, v0), (i1, v1), (i2, v2)] := by simp [h0, h1, h2]
  rw [e]
  exact hf
set_option maxHeartbeats 2000000 in
theorem awake14_any (w : World) : Calls Try.prog 7 #[] w fun e w' => e = .returned (.bool true) ∧ Below w.heap.size w w' := by
  have HH : Hid (∀ w : World, Calls Try.prog 14 #[.int .i64 1025] w fun e w' => e = .returned (.tuple #[.int .i64 2, .int .i64 0]) ∧ w' = w) := fun w => by
    have := height_any 1025 (by decide) w
    rw [if_pos (by decide), show hL 256 1025 = 2 from by decide] at this
    exact this
  have HE : Hid (∀ w : World, Calls Try.prog 8 #[.agg (inC inA)] w fun e w' => ∃ g, e = .returned (.tuple #[.slice (some ⟨g, 0, none⟩) 64 64, .int .i64 0]) ∧ Below w.heap.size w w') := fun w => (encode_ok inA inA_w inA_ok w).mono fun e w' ⟨g, h1, _, _, h2⟩ => ⟨g, h1, h2⟩
  have hbi := built_inA
  generalize inC inA = cs at *
  go_enter Try.func7, Try.ntmps7
  go_wp2_with fail
  refine (HH.out _).mono ?_
  intro e w1 hw1
  obtain ⟨he1, hb1⟩ := hw1
  subst he1 hb1
  go_wp2_with (first
    | (refine wpList_build3 (by rfl) 31 _ _ _ _ _ _ (by rfl) (.int .i64 2) (.int .i64 1) (.int .u64 7) (by rfl) (by rfl) (by rfl) cs hbi ?_; simp only [Act.put, List.setIfInBounds_toArray, List.set_cons_zero, List.set_cons_succ])
    | fail)
  refine (HE.out _).mono ?_
  intro e w2 hw2
  obtain ⟨g, he2, hb2⟩ := hw2
  subst he2
  go_wp2_with fail
  go_ret
  exact ⟨rfl, hb2⟩
end Go.Proofs.Ytpoaipoadokggaa

namespace Go.Proofs.Ytpoaipoadokggaa
set_option maxRecDepth 20000
open Go Go.RowKit
set_option linter.unusedVariables false
set_option linter.unusedSimpArgs false
theorem wpList_append_b8s {P : Program} {ops : Array Oper} {rest : List Oper} {o : Oper} {a : Act} {w : World} {Q : Exit → Act → World → Prop} (hgd : o.guard = none) (s x : Operand) (t : TypeId)
    (ho : o.op = .call { callee := .builtin .append, args := #[s, x], argTypes := #[t, t] }) (B : Nat) (e : TypeId) (i : TypeInfo) (z : Value) (ht : P.underlying t = some (.slice e)) (hi : P.info? e = some i) (hz : i.zero = some z) (hsize : i.size = 1) (hby : i.bytes = 1) (hzs : z.cells.size = 1)
    (v : Value) (hs : a.eval s = v) (hown : w.ownsRow B e 1 v 0 []) (a1 : Option Addr) (n c : Nat) (A : Nat → Nat) (hx : a.eval x = .slice a1 n c) (hA : IsB8 w a1 n A) (hN : a1 = none → n = 0 ∧ c = 0) (hn : n ≤ 140737488351232) (hbase : B ≤ w.heap.size)
    (h : ∀ v' w', w'.ownsRow B e 1 v' n (byL A n) → Below B w w' → wpList P ops Q rest (a.put o.dst v') w') : wpList P ops Q (o :: rest) a w := by
  cases a1 with
  | none =>
    obtain ⟨rfl, rfl⟩ := hN rfl
    exact wpList_append_own_none hgd s x t ho B e i 1 ht hi v 0 [] hs hown hx (h v w hown (Below.refl _ _))
  | some ad =>
    have hv := hown.lt
    refine wpList_append_own _ hgd s x t ho B e i z 1 1 ht hi hz hsize hby hzs (by decide) v 0 [] hs hown ad n c (byL A n) hx (by rw [byL_length]; omega) (fun j u hu => ?_) (fun u hu => ?_) (by unfold maxLen; omega) (by omega) hbase fun v' w' h1 h2 _ => ?_
    · have hj : j < n := by
        have := (List.getElem?_eq_some_iff.1 hu).1
        rw [byL_length] at this
        exact this
      obtain ⟨_, b, o, e1, _, c0⟩ := hA j hj
      injection e1 with e2
      subst e2
      rw [byL_at A n j hj] at hu
      injection hu with hu
      subst hu
      rw [Addr.add_mid]
      exact c0
    · unfold byL at hu
      obtain ⟨j, _, rfl⟩ := List.mem_map.1 hu
      rfl
    · rw [List.nil_append, Nat.zero_add] at h1
      exact h v' w' h1 ((Below.refl _ _).grown h2 hbase (fun k hk => (hv k hk).1))
theorem own_isB {w : World} {B n : Nat} {v : Value} {A : Nat → Nat} (h : w.ownsRow B 5 1 v n (byL A n)) : IsB w v (strN A n) := fun W hW => by
  have h2 := kown_below h hW
  by_cases h0 : 0 < n
  · obtain ⟨g, c, rfl, _⟩ := own_src h2 h0
    exact run_own_text (P := Try.prog) W 32 5 9 Try.underlying32 Try.underlying5 Try.underlying9 h2
  · obtain rfl : n = 0 := by omega
    obtain ⟨a, c, rfl⟩ := kown_slice h2
    exact (IsB8.isB (w := W) (a := a) (N := 0) (c := c) (A := A) (fun i hi => absurd hi (by omega))) W (Below.refl _ _)
theorem isB_nil (w : World) : IsB w (.slice none 0 0) ⟨#[]⟩ := by
  have := IsB8.isB (w := w) (a := none) (N := 0) (c := 0) (A := fun _ => 0) (fun i hi => absurd hi (by omega))
  exact this
end Go.Proofs.Ytpoaipoadokggaa

namespace Go.Proofs.Ytpoaipoadokggaa
set_option maxRecDepth 20000
open Go Go.RowKit
set_option linter.unusedVariables false
set_option linter.unusedSimpArgs false
set_option maxHeartbeats 16000000 in
theorem inodeCodesLaw (x : Ino) (hx : InW x) (a1 : Option Addr) (n c : Nat) (A : Nat → Nat) (hn : n ≤ 140737488351232) (w : World) (hA : IsB8 w a1 n A) (hN : a1 = none → n = 0 ∧ c = 0) :
    Calls Try.prog 3 #[.agg (inC x), .slice a1 n c] w fun e w' => e = .returned (.bool true) ∧ Below w.heap.size w w' := by
  obtain ⟨i0, hi, hz0, hz1, hz2⟩ := info_parts infoU8k
  have hzi := zero_ino
  have hzr := zero_rino
  have HA : Hid (∀ w : World, Calls Try.prog 7 #[] w fun e w' => e = .returned (.bool true) ∧ Below w.heap.size w w') := awake14_any
  have HGV : Hid (∀ w : World, Calls Try.prog 10 #[.agg (inC x)] w fun e w' => e = .returned (.agg (inC x)) ∧ Below w.heap.size w w') := given14_any x
  have hsz : (strN A n).size ≤ maxLen := by rw [strN_size]; unfold maxLen; omega
  have x_w0 : Blk (w.alloc (.cells (inC x) 31)) w.heap.size 31 (inC x) := Blk.new _ _ _
  have HB0 : Hid (Below w.heap.size w (w.alloc (.cells (inC x) 31)) ∧ w.heap.size < (w.alloc (.cells (inC x) 31)).heap.size) := ⟨below_new1 _ _, by simp⟩
  go_enter Try.func3, Try.ntmps3
  go_wp2_with fail
  generalize (w.alloc (.cells (inC x) 31)) = w0 at *
  refine (HA.out _).mono ?_
  intro e w1 hw1
  obtain ⟨he1, hb1⟩ := hw1
  subst he1
  have x_w1 : Blk w1 w.heap.size 31 (inC x) := x_w0.below hb1 x_w0.lt
  have HB1 : Hid (Below w.heap.size w w1 ∧ w.heap.size < w1.heap.size) := ⟨HB0.out.1.trans (hb1.mono HB0.out.1.size), Nat.lt_of_lt_of_le HB0.out.2 hb1.size⟩
  have HA1 : Hid (IsB8 (w1.alloc (.cells #[] 5)) a1 n A) := hA.below (HB1.out.1.alloc HB1.out.1.size _)
  have hown0 : (w1.alloc (.cells #[] 5)).ownsRow w1.heap.size 5 1 (.slice (some ⟨w1.heap.size, 0, none⟩) 0 0) 0 [] := World.ownsRow_lit w1 #[] 0 (Nat.le_refl _) (by decide) rfl
  clear hb1 x_w0 HB0 HA
  go_wp2_with (first
    | (at_builtin; refine wpList_append_b8s rfl _ _ 32 rfl w1.heap.size 5 i0 (.int .u8 0) Try.underlying32 hi hz0 hz1 hz2 rfl _ rfl hown0 a1 n c A rfl HA1.out hN hn (by simp) ?_)
    | fail)
  intro vi wA hoA hbA
  have x_wA : Blk wA w.heap.size 31 (inC x) := (x_w1.alloc _).below hbA x_w1.lt
  have HBW : Hid (Below w.heap.size w wA) := (HB1.out.1.alloc HB1.out.1.size _).trans (hbA.mono HB1.out.1.size)
  have HI : Hid (IsB wA vi (strN A n)) := own_isB hoA
  have HJ : Hid (IsB wA (.slice a1 n c) (strN A n)) := (hA.below HBW.out).isB
  have HB_wA : Hid (Below wA.heap.size wA wA) := Below.refl _ _
  have HGD : Hid (∀ w : World, Calls Try.prog 10 #[.agg (inC (decV (strN A n)))] w fun e w' => e = .returned (.agg (inC (decV (strN A n)))) ∧ Below w.heap.size w w') := given14_any _
  have heq : ∀ W, (Op.equalIn 10000 44 (.agg (inC (decV (strN A n)))) (.agg (inC (decV (strN A n))))).run Try.prog W = .ok true W := fun W => by rw [eq_rino 9995 _ _ W, decide_eq_true rfl]
  have HDE : Hid (∀ w v, IsB w v (strN A n) → Calls Try.prog 12 #[v] w fun e w' => e = .returned (.tuple #[.agg (inC (decV (strN A n))), .int .i64 (decE (strN A n))]) ∧ Below w.heap.size w w') := fun w v h => decode_any v _ hsz w h
  have HRD : Hid (∀ w : World, Calls Try.prog 13 #[.string (strN A n)] w fun e w' => e = .returned (.tuple #[.agg (inC (decV (strN A n))), .bool (decOk (strN A n))]) ∧ Below w.heap.size w w') := rdecode_any _ hsz
  have HEV : Hid (decE (strN A n) = if decOk (strN A n) = true then 0 else 140) := rfl
  have HCK : Hid (∀ w : World, Calls Try.prog 11 #[.agg (inC x)] w fun e w' => e = .returned (.int .i64 (chE x)) ∧ Below w.heap.size w w') := check_any x hx
  clear hoA hbA hown0 HA1 HB1 x_w1 hA hsz
  generalize decE (strN A n) = er at *
  generalize decOk (strN A n) = ok at *
  generalize decV (strN A n) = y at *
  generalize strN A n = tx at *
  go_wp2_with (first
    | (refine wpList_load_row (by rfl) 31 _ (by rfl) (w.heap.size) (by rfl) 31 (inC x) (0, 0) _ (by exact x_wA) Try.underlying31 (by rfl) (sizeIno.trans (by rw [inC_size])) ?_; simp only [Act.put, List.setIfInBounds_toArray, List.set_cons_zero, List.set_cons_succ])
    | fail)
  cases hc : chk x
  · skip
    rw [show chE x = 140 from by unfold chE; rw [hc]; rfl] at HCK
    refine (encode_no x hx hc _).mono ?_
    intro e w2 hw_w2
    obtain ⟨he_w2, hb_w2⟩ := hw_w2
    subst he_w2
    have x_w2 : Blk w2 (w.heap.size) 31 (inC x) := x_wA.below hb_w2 x_wA.lt
    have HB_w2 : Hid (Below wA.heap.size wA w2) := HB_wA.out.trans (hb_w2.mono HB_wA.out.size)
    clear hb_w2
    go_wp2_with (first
      | (refine wpList_load_row (by rfl) 31 _ (by rfl) (w.heap.size) (by rfl) 31 (inC x) (0, 0) _ (by exact x_w2) Try.underlying31 (by rfl) (sizeIno.trans (by rw [inC_size])) ?_; simp only [Act.put, List.setIfInBounds_toArray, List.set_cons_zero, List.set_cons_succ])
      | fail)
    refine (HGV.out _).mono ?_
    intro e w3 hw_w3
    obtain ⟨he_w3, hb_w3⟩ := hw_w3
    subst he_w3
    have x_w3 : Blk w3 (w.heap.size) 31 (inC x) := x_w2.below hb_w3 x_w2.lt
    have HB_w3 : Hid (Below wA.heap.size wA w3) := HB_w2.out.trans (hb_w3.mono HB_w2.out.size)
    clear hb_w3
    go_wp2_with fail
    refine (rencode_no x hx hc _).mono ?_
    intro e w4 hw_w4
    obtain ⟨he_w4, hb_w4⟩ := hw_w4
    subst he_w4
    have x_w4 : Blk w4 (w.heap.size) 31 (inC x) := x_w3.below hb_w4 x_w3.lt
    have HB_w4 : Hid (Below wA.heap.size wA w4) := HB_w3.out.trans (hb_w4.mono HB_w3.out.size)
    clear hb_w4
    go_wp2_with (first
      | (refine wpList_load_row (by rfl) 31 _ (by rfl) (w.heap.size) (by rfl) 31 (inC x) (0, 0) _ (by exact x_w4) Try.underlying31 (by rfl) (sizeIno.trans (by rw [inC_size])) ?_; simp only [Act.put, List.setIfInBounds_toArray, List.set_cons_zero, List.set_cons_succ])
      | fail)
    refine (HCK.out _).mono ?_
    intro e w5 hw_w5
    obtain ⟨he_w5, hb_w5⟩ := hw_w5
    subst he_w5
    have x_w5 : Blk w5 (w.heap.size) 31 (inC x) := x_w4.below hb_w5 x_w4.lt
    have HB_w5 : Hid (Below wA.heap.size wA w5) := HB_w4.out.trans (hb_w5.mono HB_w4.out.size)
    clear hb_w5
    have cv := isB_nil w5 w5 (Below.refl _ _)
    go_wp2_with fail
    have HDD := HDE.out w5 vi (HI.out.below HB_w5.out)
    refine (HDD).mono ?_
    intro e w6 hw_w6
    obtain ⟨he_w6, hb_w6⟩ := hw_w6
    subst he_w6
    have x_w6 : Blk w6 (w.heap.size) 31 (inC x) := x_w5.below hb_w6 x_w5.lt
    have HB_w6 : Hid (Below wA.heap.size wA w6) := HB_w5.out.trans (hb_w6.mono HB_w5.out.size)
    clear hb_w6 HDD cv
    have qa_w7 : Blk (w6.alloc (.cells (inC in0) 31)) w6.heap.size 31 (inC in0) := Blk.new _ _ _
    have y_w7 : Blk ((w6.alloc (.cells (inC in0) 31)).setRow w6.heap.size (inC y)) w6.heap.size 31 (inC y) := qa_w7.set _
    have x_w7 : Blk ((w6.alloc (.cells (inC in0) 31)).setRow w6.heap.size (inC y)) (w.heap.size) 31 (inC x) := (x_w6.alloc _).other _ (by have := x_w6.lt; omega)
    have HB_w7 : Hid (Below wA.heap.size wA ((w6.alloc (.cells (inC in0) 31)).setRow w6.heap.size (inC y))) := below_setRow (HB_w6.out.alloc HB_w6.out.size _) HB_w6.out.size _
    have cv := HJ.out ((w6.alloc (.cells (inC in0) 31)).setRow w6.heap.size (inC y)) HB_w7.out
    go_wp2_with (first
      | (refine wpList_store_row (by rfl) 31 _ _ (by rfl) (w6.heap.size) (inC y) (by rfl) (by rfl) 31 (inC in0) (by exact qa_w7) (sizeIno.trans (by rw [inC_size])) (by simp only [inC_size]) (inC_all _) ?_; simp only [Act.put, List.setIfInBounds_toArray, List.set_cons_zero, List.set_cons_succ])
      | fail)
    generalize ((w6.alloc (.cells (inC in0) 31)).setRow w6.heap.size (inC y)) = w7 at *
    have hgy : w6.heap.size < w7.heap.size := y_w7.lt
    generalize w6.heap.size = gy at *
    refine (HRD.out _).mono ?_
    intro e w8 hw_w8
    obtain ⟨he_w8, hb_w8⟩ := hw_w8
    subst he_w8
    have x_w8 : Blk w8 (w.heap.size) 31 (inC x) := x_w7.below hb_w8 x_w7.lt
    have y_w8 : Blk w8 (gy) 31 (inC y) := y_w7.below hb_w8 y_w7.lt
    have HB_w8 : Hid (Below wA.heap.size wA w8) := HB_w7.out.trans (hb_w8.mono HB_w7.out.size)
    clear hb_w8 cv qa_w7
    have qa_w9 : Blk (w8.alloc (.cells (inC in0) 44)) w8.heap.size 44 (inC in0) := Blk.new _ _ _
    have z_w9 : Blk ((w8.alloc (.cells (inC in0) 44)).setRow w8.heap.size (inC y)) w8.heap.size 44 (inC y) := qa_w9.set _
    have x_w9 : Blk ((w8.alloc (.cells (inC in0) 44)).setRow w8.heap.size (inC y)) (w.heap.size) 31 (inC x) := (x_w8.alloc _).other _ (by have := x_w8.lt; omega)
    have y_w9 : Blk ((w8.alloc (.cells (inC in0) 44)).setRow w8.heap.size (inC y)) (gy) 31 (inC y) := (y_w8.alloc _).other _ (by have := y_w8.lt; omega)
    have HB_w9 : Hid (Below wA.heap.size wA ((w8.alloc (.cells (inC in0) 44)).setRow w8.heap.size (inC y))) := below_setRow (HB_w8.out.alloc HB_w8.out.size _) HB_w8.out.size _
    go_wp2_with (first
      | (refine wpList_store_row (by rfl) 44 _ _ (by rfl) (w8.heap.size) (inC y) (by rfl) (by rfl) 44 (inC in0) (by exact qa_w9) (sizeRIno.trans (by rw [inC_size])) (by simp only [inC_size]) (inC_all _) ?_; simp only [Act.put, List.setIfInBounds_toArray, List.set_cons_zero, List.set_cons_succ])
      | fail)
    generalize ((w8.alloc (.cells (inC in0) 44)).setRow w8.heap.size (inC y)) = w9 at *
    generalize w8.heap.size = gz at *
    clear qa_w9 HGV HCK HRD HDE hzi hzr
    cases ok
    · have hr : er = 140 := HEV.out
      subst hr
      clear HEV
      have hS0 : Blk w9 gy 31 (inC y) ∧ Blk w9 gz 44 (inC y) := ⟨y_w9, z_w9⟩
      refine wp_region_partsS (fun W => Blk W gy 31 (inC y) ∧ Blk W gz 44 (inC y)) [([], 0, true), ([], 2, true), ([], 1, false), ([], 3, false), ([4, 5, 7], 6, false), ([], 8, false), ([9, 10, 11, 12, 13, 14], 15, false)] [16, 17] [] (by kernel_rfl) (by kernel_rfl) ⟨hS0.1.drew, hS0.2.drew⟩ (partsI_yield ?_)
      simp only [List.cons_append, List.nil_append, List.append_nil, List.filterMap_cons, List.filterMap_nil, List.getElem?_toArray, List.getElem?_cons_zero, List.getElem?_cons_succ]
      go_wp2_with fail
      refine ⟨rfl, _, .agg (inC y), rfl, kyields_load (by rfl) 31 _ (by rfl) gy 38 (inF y) (by rfl) _ 31 (fun W hW => hW.1) Try.underlying31 rfl sizeIno, partsI_yield ?_⟩
      simp only [Act.put, List.setIfInBounds_toArray, List.set_cons_zero, List.set_cons_succ]
      simp only [List.cons_append, List.nil_append, List.append_nil, List.filterMap_cons, List.filterMap_nil, List.getElem?_toArray, List.getElem?_cons_zero, List.getElem?_cons_succ]
      go_wp2_with fail
      refine ⟨rfl, _, .agg (inC y), rfl, kyields_load (by rfl) 44 _ (by rfl) gz 38 (inF y) (by rfl) _ 44 (fun W hW => hW.2) Try.underlying44 rfl sizeRIno, partsI_force ?_⟩
      simp only [Act.put, List.setIfInBounds_toArray, List.set_cons_zero, List.set_cons_succ]
      simp only [List.cons_append, List.nil_append, List.append_nil, List.filterMap_cons, List.filterMap_nil, List.getElem?_toArray, List.getElem?_cons_zero, List.getElem?_cons_succ]
      go_wp2_with fail
      refine (HGD.out _).mono ?_
      intro e w10 hw_w10
      obtain ⟨he_w10, hb_w10⟩ := hw_w10
      subst he_w10
      have hS1 : Blk w10 gy 31 (inC y) ∧ Blk w10 gz 44 (inC y) := ⟨Blk.below (w := w9.drew) hS0.1.drew hb_w10 hS0.1.lt, Blk.below (w := w9.drew) hS0.2.drew hb_w10 hS0.2.lt⟩
      have HB_w10 : Hid (Below wA.heap.size wA w10) := HB_w9.out.drew.trans (hb_w10.mono HB_w9.out.drew.size)
      clear hb_w10
      go_wp2_with fail
      refine ⟨rfl, hS1, partsI_force ?_⟩
      simp only [List.cons_append, List.nil_append, List.append_nil, List.filterMap_cons, List.filterMap_nil, List.getElem?_toArray, List.getElem?_cons_zero, List.getElem?_cons_succ]
      go_wp2_with fail
      refine ⟨rfl, hS1, partsI_force ?_⟩
      simp only [List.cons_append, List.nil_append, List.append_nil, List.filterMap_cons, List.filterMap_nil, List.getElem?_toArray, List.getElem?_cons_zero, List.getElem?_cons_succ]
      go_wp2_with fail
      refine ⟨rfl, hS1, partsI_force ?_⟩
      simp only [List.cons_append, List.nil_append, List.append_nil, List.filterMap_cons, List.filterMap_nil, List.getElem?_toArray, List.getElem?_cons_zero, List.getElem?_cons_succ]
      go_wp2_with fail
      refine ⟨rfl, hS1, partsI_force ?_⟩
      simp only [List.cons_append, List.nil_append, List.append_nil, List.filterMap_cons, List.filterMap_nil, List.getElem?_toArray, List.getElem?_cons_zero, List.getElem?_cons_succ]
      go_wp2_with fail
      refine ⟨rfl, hS1, partsI_last ?_⟩
      simp only [List.cons_append, List.nil_append, List.append_nil, List.filterMap_cons, List.filterMap_nil, List.getElem?_toArray, List.getElem?_cons_zero, List.getElem?_cons_succ]
      go_wp2_with fail
      refine ⟨rfl, ?_⟩
      go_wp2_with fail
      have HBE : Below wA.heap.size wA w10 := HB_w10.out
      have cv1 := HI.out w10 HBE
      have cv2 := HJ.out w10 HBE
      go_rounds 1
      go_wp2_with fail
      go_ret
      exact ⟨by first | rfl | simp, HBW.out.trans (HBE.mono HBW.out.size)⟩
    · have hr : er = 0 := HEV.out
      subst hr
      clear HEV
      have hS0 : Blk w9 gy 31 (inC y) ∧ Blk w9 gz 44 (inC y) := ⟨y_w9, z_w9⟩
      refine wp_region_partsS (fun W => Blk W gy 31 (inC y) ∧ Blk W gz 44 (inC y)) [([], 0, true), ([], 2, true), ([], 1, false), ([], 3, false), ([4, 5, 7], 6, false), ([], 8, false), ([9, 10, 11, 12, 13, 14], 15, false)] [16, 17] [] (by kernel_rfl) (by kernel_rfl) ⟨hS0.1.drew, hS0.2.drew⟩ (partsI_yield ?_)
      simp only [List.cons_append, List.nil_append, List.append_nil, List.filterMap_cons, List.filterMap_nil, List.getElem?_toArray, List.getElem?_cons_zero, List.getElem?_cons_succ]
      go_wp2_with fail
      refine ⟨rfl, _, .agg (inC y), rfl, kyields_load (by rfl) 31 _ (by rfl) gy 38 (inF y) (by rfl) _ 31 (fun W hW => hW.1) Try.underlying31 rfl sizeIno, partsI_yield ?_⟩
      simp only [Act.put, List.setIfInBounds_toArray, List.set_cons_zero, List.set_cons_succ]
      simp only [List.cons_append, List.nil_append, List.append_nil, List.filterMap_cons, List.filterMap_nil, List.getElem?_toArray, List.getElem?_cons_zero, List.getElem?_cons_succ]
      go_wp2_with fail
      refine ⟨rfl, _, .agg (inC y), rfl, kyields_load (by rfl) 44 _ (by rfl) gz 38 (inF y) (by rfl) _ 44 (fun W hW => hW.2) Try.underlying44 rfl sizeRIno, partsI_force ?_⟩
      simp only [Act.put, List.setIfInBounds_toArray, List.set_cons_zero, List.set_cons_succ]
      simp only [List.cons_append, List.nil_append, List.append_nil, List.filterMap_cons, List.filterMap_nil, List.getElem?_toArray, List.getElem?_cons_zero, List.getElem?_cons_succ]
      go_wp2_with fail
      refine (HGD.out _).mono ?_
      intro e w10 hw_w10
      obtain ⟨he_w10, hb_w10⟩ := hw_w10
      subst he_w10
      have hS1 : Blk w10 gy 31 (inC y) ∧ Blk w10 gz 44 (inC y) := ⟨Blk.below (w := w9.drew) hS0.1.drew hb_w10 hS0.1.lt, Blk.below (w := w9.drew) hS0.2.drew hb_w10 hS0.2.lt⟩
      have HB_w10 : Hid (Below wA.heap.size wA w10) := HB_w9.out.drew.trans (hb_w10.mono HB_w9.out.drew.size)
      clear hb_w10
      go_wp2_with fail
      refine ⟨rfl, hS1, partsI_force ?_⟩
      simp only [List.cons_append, List.nil_append, List.append_nil, List.filterMap_cons, List.filterMap_nil, List.getElem?_toArray, List.getElem?_cons_zero, List.getElem?_cons_succ]
      go_wp2_with fail
      refine ⟨rfl, hS1, partsI_force ?_⟩
      simp only [List.cons_append, List.nil_append, List.append_nil, List.filterMap_cons, List.filterMap_nil, List.getElem?_toArray, List.getElem?_cons_zero, List.getElem?_cons_succ]
      go_wp2_with fail
      refine ⟨rfl, hS1, partsI_force ?_⟩
      simp only [List.cons_append, List.nil_append, List.append_nil, List.filterMap_cons, List.filterMap_nil, List.getElem?_toArray, List.getElem?_cons_zero, List.getElem?_cons_succ]
      go_wp2_with fail
      refine ⟨rfl, hS1, partsI_force ?_⟩
      simp only [List.cons_append, List.nil_append, List.append_nil, List.filterMap_cons, List.filterMap_nil, List.getElem?_toArray, List.getElem?_cons_zero, List.getElem?_cons_succ]
      go_wp2_with fail
      refine ⟨rfl, hS1, partsI_last ?_⟩
      simp only [List.cons_append, List.nil_append, List.append_nil, List.filterMap_cons, List.filterMap_nil, List.getElem?_toArray, List.getElem?_cons_zero, List.getElem?_cons_succ]
      go_wp2_with fail
      refine ⟨rfl, ?_⟩
      go_wp2_with fail
      have HBE : Below wA.heap.size wA w10 := HB_w10.out
      have cv1 := HI.out w10 HBE
      have cv2 := HJ.out w10 HBE
      go_rounds 1
      go_wp2_with fail
      go_ret
      exact ⟨by first | rfl | simp, HBW.out.trans (HBE.mono HBW.out.size)⟩
  · skip
    rw [show chE x = 0 from by unfold chE; rw [hc]; rfl] at HCK
    refine (encode_ok x hx hc _).mono ?_
    intro e w2 hw_w2
    obtain ⟨g, he_w2, hge_w2, hk_w2, hb_w2⟩ := hw_w2
    subst he_w2
    have x_w2 : Blk w2 (w.heap.size) 31 (inC x) := x_wA.below hb_w2 x_wA.lt
    have HB_w2 : Hid (Below wA.heap.size wA w2) := HB_wA.out.trans (hb_w2.mono HB_wA.out.size)
    have s_w2 := hk_w2
    clear hb_w2 hk_w2
    have hgA : wA.heap.size ≤ g := hge_w2
    go_wp2_with (first
      | (refine wpList_load_row (by rfl) 31 _ (by rfl) (w.heap.size) (by rfl) 31 (inC x) (0, 0) _ (by exact x_w2) Try.underlying31 (by rfl) (sizeIno.trans (by rw [inC_size])) ?_; simp only [Act.put, List.setIfInBounds_toArray, List.set_cons_zero, List.set_cons_succ])
      | fail)
    refine (HGV.out _).mono ?_
    intro e w3 hw_w3
    obtain ⟨he_w3, hb_w3⟩ := hw_w3
    subst he_w3
    have x_w3 : Blk w3 (w.heap.size) 31 (inC x) := x_w2.below hb_w3 x_w2.lt
    have s_w3 : Blk w3 (g) 5 (va 64 (iv .u8 (inB x))) := s_w2.below hb_w3 s_w2.lt
    have HB_w3 : Hid (Below wA.heap.size wA w3) := HB_w2.out.trans (hb_w3.mono HB_w2.out.size)
    clear hb_w3
    go_wp2_with fail
    refine (rencode_ok x hx hc _).mono ?_
    intro e w4 hw_w4
    obtain ⟨he_w4, hb_w4⟩ := hw_w4
    subst he_w4
    have x_w4 : Blk w4 (w.heap.size) 31 (inC x) := x_w3.below hb_w4 x_w3.lt
    have s_w4 : Blk w4 (g) 5 (va 64 (iv .u8 (inB x))) := s_w3.below hb_w4 s_w3.lt
    have HB_w4 : Hid (Below wA.heap.size wA w4) := HB_w3.out.trans (hb_w4.mono HB_w3.out.size)
    clear hb_w4
    go_wp2_with (first
      | (refine wpList_load_row (by rfl) 31 _ (by rfl) (w.heap.size) (by rfl) 31 (inC x) (0, 0) _ (by exact x_w4) Try.underlying31 (by rfl) (sizeIno.trans (by rw [inC_size])) ?_; simp only [Act.put, List.setIfInBounds_toArray, List.set_cons_zero, List.set_cons_succ])
      | fail)
    refine (HCK.out _).mono ?_
    intro e w5 hw_w5
    obtain ⟨he_w5, hb_w5⟩ := hw_w5
    subst he_w5
    have x_w5 : Blk w5 (w.heap.size) 31 (inC x) := x_w4.below hb_w5 x_w4.lt
    have s_w5 : Blk w5 (g) 5 (va 64 (iv .u8 (inB x))) := s_w4.below hb_w5 s_w4.lt
    have HB_w5 : Hid (Below wA.heap.size wA w5) := HB_w4.out.trans (hb_w5.mono HB_w4.out.size)
    clear hb_w5
    have cv := IsB.all (c := 64) s_w5 w5 (Below.refl _ _)
    generalize strN (inB x) 64 = te at *
    go_wp2_with fail
    have HDD := HDE.out w5 vi (HI.out.below HB_w5.out)
    refine (HDD).mono ?_
    intro e w6 hw_w6
    obtain ⟨he_w6, hb_w6⟩ := hw_w6
    subst he_w6
    have x_w6 : Blk w6 (w.heap.size) 31 (inC x) := x_w5.below hb_w6 x_w5.lt
    have s_w6 : Blk w6 (g) 5 (va 64 (iv .u8 (inB x))) := s_w5.below hb_w6 s_w5.lt
    have HB_w6 : Hid (Below wA.heap.size wA w6) := HB_w5.out.trans (hb_w6.mono HB_w5.out.size)
    clear hb_w6 HDD cv
    have qa_w7 : Blk (w6.alloc (.cells (inC in0) 31)) w6.heap.size 31 (inC in0) := Blk.new _ _ _
    have y_w7 : Blk ((w6.alloc (.cells (inC in0) 31)).setRow w6.heap.size (inC y)) w6.heap.size 31 (inC y) := qa_w7.set _
    have x_w7 : Blk ((w6.alloc (.cells (inC in0) 31)).setRow w6.heap.size (inC y)) (w.heap.size) 31 (inC x) := (x_w6.alloc _).other _ (by have := x_w6.lt; omega)
    have s_w7 : Blk ((w6.alloc (.cells (inC in0) 31)).setRow w6.heap.size (inC y)) (g) 5 (va 64 (iv .u8 (inB x))) := (s_w6.alloc _).other _ (by have := s_w6.lt; omega)
    have HB_w7 : Hid (Below wA.heap.size wA ((w6.alloc (.cells (inC in0) 31)).setRow w6.heap.size (inC y))) := below_setRow (HB_w6.out.alloc HB_w6.out.size _) HB_w6.out.size _
    have cv := HJ.out ((w6.alloc (.cells (inC in0) 31)).setRow w6.heap.size (inC y)) HB_w7.out
    go_wp2_with (first
      | (refine wpList_store_row (by rfl) 31 _ _ (by rfl) (w6.heap.size) (inC y) (by rfl) (by rfl) 31 (inC in0) (by exact qa_w7) (sizeIno.trans (by rw [inC_size])) (by simp only [inC_size]) (inC_all _) ?_; simp only [Act.put, List.setIfInBounds_toArray, List.set_cons_zero, List.set_cons_succ])
      | fail)
    generalize ((w6.alloc (.cells (inC in0) 31)).setRow w6.heap.size (inC y)) = w7 at *
    have hgy : w6.heap.size < w7.heap.size := y_w7.lt
    generalize w6.heap.size = gy at *
    refine (HRD.out _).mono ?_
    intro e w8 hw_w8
    obtain ⟨he_w8, hb_w8⟩ := hw_w8
    subst he_w8
    have x_w8 : Blk w8 (w.heap.size) 31 (inC x) := x_w7.below hb_w8 x_w7.lt
    have s_w8 : Blk w8 (g) 5 (va 64 (iv .u8 (inB x))) := s_w7.below hb_w8 s_w7.lt
    have y_w8 : Blk w8 (gy) 31 (inC y) := y_w7.below hb_w8 y_w7.lt
    have HB_w8 : Hid (Below wA.heap.size wA w8) := HB_w7.out.trans (hb_w8.mono HB_w7.out.size)
    clear hb_w8 cv qa_w7
    have qa_w9 : Blk (w8.alloc (.cells (inC in0) 44)) w8.heap.size 44 (inC in0) := Blk.new _ _ _
    have z_w9 : Blk ((w8.alloc (.cells (inC in0) 44)).setRow w8.heap.size (inC y)) w8.heap.size 44 (inC y) := qa_w9.set _
    have x_w9 : Blk ((w8.alloc (.cells (inC in0) 44)).setRow w8.heap.size (inC y)) (w.heap.size) 31 (inC x) := (x_w8.alloc _).other _ (by have := x_w8.lt; omega)
    have s_w9 : Blk ((w8.alloc (.cells (inC in0) 44)).setRow w8.heap.size (inC y)) (g) 5 (va 64 (iv .u8 (inB x))) := (s_w8.alloc _).other _ (by have := s_w8.lt; omega)
    have y_w9 : Blk ((w8.alloc (.cells (inC in0) 44)).setRow w8.heap.size (inC y)) (gy) 31 (inC y) := (y_w8.alloc _).other _ (by have := y_w8.lt; omega)
    have HB_w9 : Hid (Below wA.heap.size wA ((w8.alloc (.cells (inC in0) 44)).setRow w8.heap.size (inC y))) := below_setRow (HB_w8.out.alloc HB_w8.out.size _) HB_w8.out.size _
    go_wp2_with (first
      | (refine wpList_store_row (by rfl) 44 _ _ (by rfl) (w8.heap.size) (inC y) (by rfl) (by rfl) 44 (inC in0) (by exact qa_w9) (sizeRIno.trans (by rw [inC_size])) (by simp only [inC_size]) (inC_all _) ?_; simp only [Act.put, List.setIfInBounds_toArray, List.set_cons_zero, List.set_cons_succ])
      | fail)
    generalize ((w8.alloc (.cells (inC in0) 44)).setRow w8.heap.size (inC y)) = w9 at *
    generalize w8.heap.size = gz at *
    clear qa_w9 HGV HCK HRD HDE hzi hzr
    cases ok
    · have hr : er = 140 := HEV.out
      subst hr
      clear HEV
      have hS0 : Blk w9 gy 31 (inC y) ∧ Blk w9 gz 44 (inC y) := ⟨y_w9, z_w9⟩
      refine wp_region_partsS (fun W => Blk W gy 31 (inC y) ∧ Blk W gz 44 (inC y)) [([], 0, true), ([], 2, true), ([], 1, false), ([], 3, false), ([4, 5, 7], 6, false), ([], 8, false), ([9, 10, 11, 12, 13, 14], 15, false)] [16, 17] [] (by kernel_rfl) (by kernel_rfl) ⟨hS0.1.drew, hS0.2.drew⟩ (partsI_yield ?_)
      simp only [List.cons_append, List.nil_append, List.append_nil, List.filterMap_cons, List.filterMap_nil, List.getElem?_toArray, List.getElem?_cons_zero, List.getElem?_cons_succ]
      go_wp2_with fail
      refine ⟨rfl, _, .agg (inC y), rfl, kyields_load (by rfl) 31 _ (by rfl) gy 38 (inF y) (by rfl) _ 31 (fun W hW => hW.1) Try.underlying31 rfl sizeIno, partsI_yield ?_⟩
      simp only [Act.put, List.setIfInBounds_toArray, List.set_cons_zero, List.set_cons_succ]
      simp only [List.cons_append, List.nil_append, List.append_nil, List.filterMap_cons, List.filterMap_nil, List.getElem?_toArray, List.getElem?_cons_zero, List.getElem?_cons_succ]
      go_wp2_with fail
      refine ⟨rfl, _, .agg (inC y), rfl, kyields_load (by rfl) 44 _ (by rfl) gz 38 (inF y) (by rfl) _ 44 (fun W hW => hW.2) Try.underlying44 rfl sizeRIno, partsI_force ?_⟩
      simp only [Act.put, List.setIfInBounds_toArray, List.set_cons_zero, List.set_cons_succ]
      simp only [List.cons_append, List.nil_append, List.append_nil, List.filterMap_cons, List.filterMap_nil, List.getElem?_toArray, List.getElem?_cons_zero, List.getElem?_cons_succ]
      go_wp2_with fail
      refine (HGD.out _).mono ?_
      intro e w10 hw_w10
      obtain ⟨he_w10, hb_w10⟩ := hw_w10
      subst he_w10
      have s_w10 : Blk w10 g 5 (va 64 (iv .u8 (inB x))) := Blk.below (w := w9.drew) s_w9.drew hb_w10 s_w9.lt
      have hS1 : Blk w10 gy 31 (inC y) ∧ Blk w10 gz 44 (inC y) := ⟨Blk.below (w := w9.drew) hS0.1.drew hb_w10 hS0.1.lt, Blk.below (w := w9.drew) hS0.2.drew hb_w10 hS0.2.lt⟩
      have HB_w10 : Hid (Below wA.heap.size wA w10) := HB_w9.out.drew.trans (hb_w10.mono HB_w9.out.drew.size)
      clear hb_w10
      go_wp2_with fail
      refine ⟨rfl, hS1, partsI_force ?_⟩
      simp only [List.cons_append, List.nil_append, List.append_nil, List.filterMap_cons, List.filterMap_nil, List.getElem?_toArray, List.getElem?_cons_zero, List.getElem?_cons_succ]
      go_wp2_with fail
      refine ⟨rfl, hS1, partsI_force ?_⟩
      simp only [List.cons_append, List.nil_append, List.append_nil, List.filterMap_cons, List.filterMap_nil, List.getElem?_toArray, List.getElem?_cons_zero, List.getElem?_cons_succ]
      go_wp2_with fail
      refine ⟨rfl, hS1, partsI_force ?_⟩
      simp only [List.cons_append, List.nil_append, List.append_nil, List.filterMap_cons, List.filterMap_nil, List.getElem?_toArray, List.getElem?_cons_zero, List.getElem?_cons_succ]
      go_wp2_with fail
      refine ⟨rfl, hS1, partsI_force ?_⟩
      simp only [List.cons_append, List.nil_append, List.append_nil, List.filterMap_cons, List.filterMap_nil, List.getElem?_toArray, List.getElem?_cons_zero, List.getElem?_cons_succ]
      go_wp2_with fail
      refine ⟨rfl, hS1, partsI_last ?_⟩
      simp only [List.cons_append, List.nil_append, List.append_nil, List.filterMap_cons, List.filterMap_nil, List.getElem?_toArray, List.getElem?_cons_zero, List.getElem?_cons_succ]
      go_wp2_with fail
      refine ⟨rfl, ?_⟩
      go_wp2_with fail
      go_loopw [86] (fun i wr => Hid (∃ (j : Nat) (f : Nat → Value), j ≤ 64 ∧ i = .int .i64 (j : Int) ∧ Blk wr g 5 (va 64 f) ∧ Below wA.heap.size wA wr)) (fun i _ => 64 - (intOf i).toNat)
      case atStart => exact ⟨0, _, by omega, rfl, s_w10, HB_w10.out⟩
      case round =>
        obtain ⟨j, f, hj, rfl, hq, hbe⟩ := Hid.out hrel
        clear hrel s_w10 HB_w10
        by_cases hlt : j < 64
        · have j1 : (j : Int) < 64 := by omega
          have f1 : wr.frozen? ⟨g, j, none⟩ = false := hq.frozen _
          obtain ⟨old, e1⟩ : ∃ old : Value, wr.cell? ⟨g, j, none⟩ = some old := ⟨_, by rw [hq.cell]; exact va_at f hlt⟩
          go_wp2_with fail
          refine ⟨⟨j + 1, upd f j (.int .u8 99), by omega, by simp, ?_, hbe.setCell hgA _⟩, ?_⟩
          · have := hq.put j (.int .u8 99)
            rwa [va_set] at this
          · simp [intOf]; omega
        · have e : j = 64 := by omega
          subst e
          have HBE : Below wA.heap.size wA wr := hbe
          have cv1 := HI.out wr HBE
          have cv2 := HJ.out wr HBE
          go_wp2_with fail
          go_ret
          exact ⟨by first | rfl | simp, HBW.out.trans (HBE.mono HBW.out.size)⟩
    · have hr : er = 0 := HEV.out
      subst hr
      clear HEV
      have hS0 : Blk w9 gy 31 (inC y) ∧ Blk w9 gz 44 (inC y) := ⟨y_w9, z_w9⟩
      refine wp_region_partsS (fun W => Blk W gy 31 (inC y) ∧ Blk W gz 44 (inC y)) [([], 0, true), ([], 2, true), ([], 1, false), ([], 3, false), ([4, 5, 7], 6, false), ([], 8, false), ([9, 10, 11, 12, 13, 14], 15, false)] [16, 17] [] (by kernel_rfl) (by kernel_rfl) ⟨hS0.1.drew, hS0.2.drew⟩ (partsI_yield ?_)
      simp only [List.cons_append, List.nil_append, List.append_nil, List.filterMap_cons, List.filterMap_nil, List.getElem?_toArray, List.getElem?_cons_zero, List.getElem?_cons_succ]
      go_wp2_with fail
      refine ⟨rfl, _, .agg (inC y), rfl, kyields_load (by rfl) 31 _ (by rfl) gy 38 (inF y) (by rfl) _ 31 (fun W hW => hW.1) Try.underlying31 rfl sizeIno, partsI_yield ?_⟩
      simp only [Act.put, List.setIfInBounds_toArray, List.set_cons_zero, List.set_cons_succ]
      simp only [List.cons_append, List.nil_append, List.append_nil, List.filterMap_cons, List.filterMap_nil, List.getElem?_toArray, List.getElem?_cons_zero, List.getElem?_cons_succ]
      go_wp2_with fail
      refine ⟨rfl, _, .agg (inC y), rfl, kyields_load (by rfl) 44 _ (by rfl) gz 38 (inF y) (by rfl) _ 44 (fun W hW => hW.2) Try.underlying44 rfl sizeRIno, partsI_force ?_⟩
      simp only [Act.put, List.setIfInBounds_toArray, List.set_cons_zero, List.set_cons_succ]
      simp only [List.cons_append, List.nil_append, List.append_nil, List.filterMap_cons, List.filterMap_nil, List.getElem?_toArray, List.getElem?_cons_zero, List.getElem?_cons_succ]
      go_wp2_with fail
      refine (HGD.out _).mono ?_
      intro e w10 hw_w10
      obtain ⟨he_w10, hb_w10⟩ := hw_w10
      subst he_w10
      have s_w10 : Blk w10 g 5 (va 64 (iv .u8 (inB x))) := Blk.below (w := w9.drew) s_w9.drew hb_w10 s_w9.lt
      have hS1 : Blk w10 gy 31 (inC y) ∧ Blk w10 gz 44 (inC y) := ⟨Blk.below (w := w9.drew) hS0.1.drew hb_w10 hS0.1.lt, Blk.below (w := w9.drew) hS0.2.drew hb_w10 hS0.2.lt⟩
      have HB_w10 : Hid (Below wA.heap.size wA w10) := HB_w9.out.drew.trans (hb_w10.mono HB_w9.out.drew.size)
      clear hb_w10
      go_wp2_with fail
      refine ⟨rfl, hS1, partsI_force ?_⟩
      simp only [List.cons_append, List.nil_append, List.append_nil, List.filterMap_cons, List.filterMap_nil, List.getElem?_toArray, List.getElem?_cons_zero, List.getElem?_cons_succ]
      go_wp2_with fail
      refine ⟨rfl, hS1, partsI_force ?_⟩
      simp only [List.cons_append, List.nil_append, List.append_nil, List.filterMap_cons, List.filterMap_nil, List.getElem?_toArray, List.getElem?_cons_zero, List.getElem?_cons_succ]
      go_wp2_with fail
      refine ⟨rfl, hS1, partsI_force ?_⟩
      simp only [List.cons_append, List.nil_append, List.append_nil, List.filterMap_cons, List.filterMap_nil, List.getElem?_toArray, List.getElem?_cons_zero, List.getElem?_cons_succ]
      go_wp2_with fail
      refine ⟨rfl, hS1, partsI_force ?_⟩
      simp only [List.cons_append, List.nil_append, List.append_nil, List.filterMap_cons, List.filterMap_nil, List.getElem?_toArray, List.getElem?_cons_zero, List.getElem?_cons_succ]
      go_wp2_with fail
      refine ⟨rfl, hS1, partsI_last ?_⟩
      simp only [List.cons_append, List.nil_append, List.append_nil, List.filterMap_cons, List.filterMap_nil, List.getElem?_toArray, List.getElem?_cons_zero, List.getElem?_cons_succ]
      go_wp2_with fail
      refine ⟨rfl, ?_⟩
      go_wp2_with fail
      go_loopw [86] (fun i wr => Hid (∃ (j : Nat) (f : Nat → Value), j ≤ 64 ∧ i = .int .i64 (j : Int) ∧ Blk wr g 5 (va 64 f) ∧ Below wA.heap.size wA wr)) (fun i _ => 64 - (intOf i).toNat)
      case atStart => exact ⟨0, _, by omega, rfl, s_w10, HB_w10.out⟩
      case round =>
        obtain ⟨j, f, hj, rfl, hq, hbe⟩ := Hid.out hrel
        clear hrel s_w10 HB_w10
        by_cases hlt : j < 64
        · have j1 : (j : Int) < 64 := by omega
          have f1 : wr.frozen? ⟨g, j, none⟩ = false := hq.frozen _
          obtain ⟨old, e1⟩ : ∃ old : Value, wr.cell? ⟨g, j, none⟩ = some old := ⟨_, by rw [hq.cell]; exact va_at f hlt⟩
          go_wp2_with fail
          refine ⟨⟨j + 1, upd f j (.int .u8 99), by omega, by simp, ?_, hbe.setCell hgA _⟩, ?_⟩
          · have := hq.put j (.int .u8 99)
            rwa [va_set] at this
          · simp [intOf]; omega
        · have e : j = 64 := by omega
          subst e
          have HBE : Below wA.heap.size wA wr := hbe
          have cv1 := HI.out wr HBE
          have cv2 := HJ.out wr HBE
          go_wp2_with fail
          go_ret
          exact ⟨by first | rfl | simp, HBW.out.trans (HBE.mono HBW.out.size)⟩
end Go.Proofs.Ytpoaipoadokggaa
