/- FdPlays: descriptors opened, closed, moved, in any order; two know nothing of one another. -/
import Derived.Test.YtldkmogennmldaaRows
import Derived.WalkKit
import Derived.ProofKit
import Derived.OpenShut
import Derived.Lib.SmallJoins
import Derived.SizedLaws
import Derived.Deep.Slices
import Derived.Test.YtldkmogennmldaaHSegsIf
import Derived.Test.YtldkmogennmldaaHFdAwake
import Derived.Handy

namespace Go.Proofs.Ytldkmogennmldaa
open Go.ChangeShapes Go.WideShapes Go.ChangeAt Go.RowKit Go.Joins
set_option linter.unusedVariables false
/-- a deed -/
structure A23 where
  kd : Int
  f : Int
  a : Int
  b : Int
  c : Int
def A23.cs (x : A23) : List Value := [.int .i64 x.kd, .int .i64 x.f, .int .i64 x.a, .int .i64 x.b, .int .i64 x.c]
/-- what any deed is -/
def i64I (x : Int) : Prop := -9223372036854775808 ≤ x ∧ x ≤ 9223372036854775807
def A23.ok (x : A23) : Prop := i64I x.kd ∧ i64I x.f ∧ i64I x.a ∧ i64I x.b ∧ i64I x.c
def IsA23 (W : World) (a : Option Addr) (n : Nat) (A : Nat → A23) : Prop := ∀ i, i < n → ∃ b o, a = some ⟨b, o, none⟩ ∧ b < W.heap.size ∧ W.rangeAt b (o + i * 5) (A i).cs
theorem IsA23.below {W V : World} {a : Option Addr} {n : Nat} {A : Nat → A23} (h : IsA23 W a n A) (hb : Below W.heap.size W V) : IsA23 V a n A := fun i hi => by
  obtain ⟨b, o, h1, h2, h3⟩ := h i hi
  refine ⟨b, o, h1, Nat.lt_of_lt_of_le h2 hb.size, fun j v hv => ?_⟩
  rw [← h3 j v hv]
  simp [World.cell?, hb.block b h2]
theorem acell23_lt {W : World} {b o : Nat} {v : Value} (h : W.cell? ⟨b, o, none⟩ = some v) : b < W.heap.size := World.block_lt_of_cell? _ _ h
set_option maxRecDepth 100000 in
theorem open_acts23 {H : Type} {enc : TypeId × Value → H} {W : World} {a0 : Option Addr} {len cap fuel : Nat} {x : DataW H × List MemPlace}
    (hf : DataW.trod enc Try.prog W 0 (fun _ => true) true fuel 26 [.slice a0 len cap] = some x) (hsz : ∀ n ∈ x.1.weights Try.prog 26, n ≤ reachBytes) :
    ∃ (A : Nat → A23), len * 40 ≤ 140737488351232 ∧ (a0 = none → len = 0 ∧ cap = 0) ∧ (∀ i, i < len → (A i).ok) ∧ IsA23 W a0 len A := by
  rcases Deep.open_slice Try.underlying26 hf with ⟨hcs, hx⟩ | ⟨a, len', cap', m, n, D, Pl, hcs, _, hl, hm, hmm, hx, hel⟩
  · simp at hcs
    obtain ⟨rfl, rfl, rfl⟩ := hcs
    exact ⟨fun _ => ⟨0, 0, 0, 0, 0⟩, by omega, fun _ => ⟨rfl, rfl⟩, fun i hi => absurd hi (by omega), fun i hi => absurd hi (by omega)⟩
  · simp at hcs
    obtain ⟨rfl, rfl, rfl⟩ := hcs
    subst hx
    simp only [if_true] at hmm
    subst hmm
    have hu := Try.underlying26
    have hby : Try.prog.bytesOf 31 = 40 := by kernel_rfl
    have hw0 := hsz ((((List.range len).map D).length + ((List.range (m - len)).map fun j => D (len + j)).length) * Try.prog.bytesOf 31) (by simp [DataW.weights, hu])
    rw [hby] at hw0
    simp only [List.length_map, List.length_range] at hw0
    have hlen4 : len * 40 ≤ 140737488351232 := by
      unfold reachBytes at hw0
      omega
    have hce : Try.prog.cellsOf 31 = 5 := by kernel_rfl
    have hci : Try.prog.cellsOf 3 = 1 := by kernel_rfl
    have hsp : 0 < len → a.spot = none := fun h0 => by
      obtain ⟨cs', h1, _⟩ := hel 0 (by omega)
      rw [hce] at h1
      obtain ⟨_, hcl, hcell⟩ := World.cells?_some h1
      match cs', hcl with
      | [v0, v1, v2, v3, v4], _ => simpa [Addr.add] using World.cell?_spot (hcell 0 (by omega))
    have each : ∀ i, ∃ q : A23, i < len → q.ok ∧ ∃ b o, a = ⟨b, o, none⟩ ∧ b < W.heap.size ∧ W.rangeAt b (o + i * 5) q.cs := by
      intro i
      by_cases hi : i < len
      · obtain ⟨cs', h1, h2⟩ := hel i (by omega)
        rw [hce] at h1
        obtain ⟨_, hcl, hcell⟩ := World.cells?_some h1
        obtain ⟨xs, k, hk, hxy, _, hxl, hfs⟩ := DataW.trod_struct Try.underlying31 h2
        match xs, hxl, cs', hcl with
        | [y0, y1, y2, y3, y4], _, [v0, v1, v2, v3, v4], _ =>
          have g0 := hfs 0 _ rfl
          have g1 := hfs 1 _ rfl
          have g2 := hfs 2 _ rfl
          have g3 := hfs 3 _ rfl
          have g4 := hfs 4 _ rfl
          simp [hci] at g0 g1 g2 g3 g4
          obtain ⟨p0, e0, _, w0⟩ := DataW.trod_int Try.underlying3 g0
          obtain ⟨p1, e1, _, w1⟩ := DataW.trod_int Try.underlying3 g1
          obtain ⟨p2, e2, _, w2⟩ := DataW.trod_int Try.underlying3 g2
          obtain ⟨p3, e3, _, w3⟩ := DataW.trod_int Try.underlying3 g3
          obtain ⟨p4, e4, _, w4⟩ := DataW.trod_int Try.underlying3 g4
          simp at e0 e1 e2 e3 e4
          subst e0 e1 e2 e3 e4
          refine ⟨⟨p0, p1, p2, p3, p4⟩, fun _ => ⟨⟨bounds_i64 w0, bounds_i64 w1, bounds_i64 w2, bounds_i64 w3, bounds_i64 w4⟩, ?_⟩⟩
          have c0 := hcell 0 (by decide)
          have c1 := hcell 1 (by decide)
          have c2 := hcell 2 (by decide)
          have c3 := hcell 3 (by decide)
          have c4 := hcell 4 (by decide)
          obtain ⟨b, off, spot⟩ := a
          have hspot : spot = none := hsp (by omega)
          subst hspot
          simp only [Addr.add_mid, List.getElem?_cons_zero, List.getElem?_cons_succ] at c0 c1 c2 c3 c4
          refine ⟨b, off, rfl, acell23_lt c0, fun j v hv => ?_⟩
          match j with
          | 0 => rw [← hv]; exact c0
          | 1 => rw [← hv]; exact c1
          | 2 => rw [← hv]; exact c2
          | 3 => rw [← hv]; exact c3
          | 4 => rw [← hv]; exact c4
          | j + 5 => simp [A23.cs] at hv
      · exact ⟨⟨0, 0, 0, 0, 0⟩, fun h => absurd h hi⟩
    refine ⟨fun i => Classical.choose (each i), hlen4, fun h => by simp at h, fun i hi => (Classical.choose_spec (each i) hi).1, fun i hi => ?_⟩
    obtain ⟨b, o, rfl, h1, h2⟩ := (Classical.choose_spec (each i) hi).2
    exact ⟨b, o, rfl, h1, h2⟩
end Go.Proofs.Ytldkmogennmldaa

namespace Go.Proofs.Ytldkmogennmldaa
open Go Go.RowKit
set_option linter.unusedSimpArgs false
set_option linter.unusedVariables false
theorem IsA23.cs {W : World} {a : Option Addr} {n i : Nat} {X : Nat → A23} (h : IsA23 W a n X) (hi : i < n) : ∃ b o, a = some ⟨b, o, none⟩ ∧ b < W.heap.size ∧ W.cell? ⟨b, o + i * 5, none⟩ = some (.int .i64 (X i).kd) ∧ W.cell? ⟨b, o + i * 5 + 1, none⟩ = some (.int .i64 (X i).f) ∧ W.rangeAt b (o + i * 5) (X i).cs := by
  obtain ⟨b, o, h1, h2, h3⟩ := h i hi
  exact ⟨b, o, h1, h2, h3 0 _ rfl, h3 1 _ rfl, h3⟩
theorem a23_size : (Try.prog.info? 31).map (·.size) = some 5 := by kernel_rfl
/-- what stands in the loop -/
structure PL (w W : World) (b b2 g : Nat) (O : Nat → Dsc) (L : List Ro) : Prop where
  fd : FdB W b O
  o2 : FdB W b2 (fun _ => ds0)
  ro : IsRo W g L
  ti : TieO O L
  n1 : g ≠ b
  n2 : b ≠ b2
  n3 : g ≠ b2
  l1 : w.heap.size ≤ b
  l2 : w.heap.size ≤ g
  bl : Below w.heap.size w W
theorem PL.below {w W V : World} {b b2 g : Nat} {O : Nat → Dsc} {L : List Ro} (h : PL w W b b2 g O L) (hb : Below W.heap.size W V) : PL w V b b2 g O L :=
  ⟨h.fd.below hb, h.o2.below hb, h.ro.below hb, h.ti, h.n1, h.n2, h.n3, h.l1, h.l2, h.bl.trans (hb.mono h.bl.size)⟩
theorem OneT.fdb {b k : Nat} {w w' : World} {O : Nat → Dsc} (h : OneT b w w') (hk : FdB w k O) (hne : k ≠ b) : FdB w' k O := h.blk hk hne
set_option maxRecDepth 100000 in
set_option maxHeartbeats 32000000 in
theorem fdPlaysLaw (a : Option Addr) (n c : Nat) (hn : n * 40 ≤ 140737488351232) (X : Nat → A23) (hX : ∀ i, i < n → (X i).ok) (I : Int) (w : World) (hI : IsA23 w a n X) : Calls Try.prog 4 #[.slice a n c, .int .i64 I] w fun e w' => e = .returned (.bool true) ∧ Below w.heap.size w w' := by
  have HA : Hid (∀ V : World, Calls Try.prog 8 #[] V fun e w' => e = .returned (.bool true) ∧ Below V.heap.size V w') := awake23_any
  have HN := fnew_any w
  have HN2 : Hid (∀ V : World, Calls Try.prog 12 #[] V fun e w' => ∃ b, e = .returned (.pointer (some ⟨b, 0, none⟩)) ∧ V.heap.size ≤ b ∧ FdB w' b (fun _ => ds0) ∧ Below V.heap.size V w') := fnew_any
  have HX : Hid (∀ i, i < n → (X i).ok) := hX
  have HI : Hid (∀ V, Below w.heap.size w V → IsA23 V a n X) := fun V hV => hI.below hV
  have nn : (n : Int) ≤ 140737488351232 := by omega
  clear hX hI
  go_enter Try.func4, Try.ntmps4
  go_wp2_with fail
  refine HN.mono ?_
  rintro e w1 ⟨b, rfl, hb0, hF, hb1⟩
  clear HN
  go_wp2_with fail
  refine (HN2.out _).mono ?_
  rintro e w2 ⟨b2, rfl, hb20, hF2, hb2⟩
  have hbb : b ≠ b2 := fun q => by have := hF.lt; omega
  have HB2 : Hid (w.heap.size ≤ b ∧ FdB w2 b (fun _ => ds0) ∧ FdB w2 b2 (fun _ => ds0) ∧ b ≠ b2 ∧ Below w.heap.size w w2) := ⟨hb0, hF.below hb2, hF2, hbb, hb1.trans (hb2.mono hb1.size)⟩
  clear hb0 hF hb1 hb20 hF2 hb2 hbb HN2
  go_wp2_with fail
  refine (HA.out _).mono ?_
  rintro e w3 ⟨rfl, hb3⟩
  have HP0 : Hid (PL w (w3.alloc (.cells #[] 64)) b b2 w3.heap.size (fun _ => ds0) []) := by
    obtain ⟨k1, k2, k3, k4, k5⟩ := HB2.out
    have hb4 : Below w2.heap.size w2 (w3.alloc (.cells #[] 64)) := hb3.alloc hb3.size _
    have l1 := k2.lt
    have l2 := k3.lt
    have l3 := hb3.size
    have l4 := k5.size
    exact ⟨k2.below hb4, k3.below hb4, ⟨by simp, fun j u hu => by simp [roL] at hu⟩, TieO.new, by omega, k4, by omega, k1, by omega, k5.trans (hb4.mono k5.size)⟩
  clear hb3 HB2 HA
  go_wp2_with fail
  generalize (w3.alloc (.cells #[] 64)) = w4 at *
  generalize w3.heap.size = g0 at *
  go_loopw [5, 7, 8] (fun v5 v7 v8 wr => Hid (∃ (i b g cc : Nat) (O : Nat → Dsc) (L : List Ro), i ≤ n ∧ v8 = .int .i64 (i : Int) ∧ v5 = .pointer (some ⟨b, 0, none⟩) ∧ v7 = .slice (some ⟨g, 0, none⟩) L.length cc ∧ PL w wr b b2 g O L)) (fun _ _ v8 _ => n - (intOf v8).toNat)
  case atStart => exact ⟨0, b, g0, 0, fun _ => ds0, [], Nat.zero_le _, rfl, rfl, rfl, HP0.out⟩
  case round =>
    obtain ⟨i, b, g, cc, O, L, hi, rfl, rfl, rfl, hP⟩ := Hid.out hrel
    clear hrel HP0
    have HP : Hid (PL w wr b b2 g O L) := hP
    clear hP
    by_cases hin : i < n
    · have i1 : (i : Int) < (n : Int) := by omega
      have i2 : (0 : Int) ≤ (i : Int) := by omega
      obtain ⟨ab, ao, rfl, hab, a0, a1, ar⟩ := (HI.out wr HP.out.bl).cs hin
      have HIN : Hid (i < n) := hin
      obtain ⟨⟨kd, fd, xa, xb, xc⟩, eX⟩ : ∃ y, X i = y := ⟨_, rfl⟩
      have hok := HX.out i hin
      rw [eX] at a0 a1 ar hok
      have HXB : Hid (-9223372036854775808 ≤ xb ∧ xb ≤ 9223372036854775807) := hok.2.2.2.1
      have HA1 : Hid (∀ V, Below w.heap.size w V → V.cell? ⟨ab, ao + i * 5 + 1, none⟩ = some (.int .i64 fd)) := fun V hV => by
        obtain ⟨ab2, ao2, e1, _, _, a12, _⟩ := (HI.out V hV).cs hin
        injection e1 with e1
        injection e1 with e1 e2
        subst e1 e2
        rw [eX] at a12
        exact a12
      clear hok hin hi hab eX
      by_cases h5 : kd = 5
      · subst h5
        have HCL := fclone_any wr HP.out.fd
        clear ar
        go_wp2_with fail
        refine HCL.mono ?_
        rintro e w5 ⟨k, rfl, hk1, hk2, hk3⟩
        obtain ⟨n1, er, O1, hP1, _⟩ := two_open (O := O) (L := L) HP.out.ti b g cc 7 3 (by decide)
        have HO1 := hP1 w5 (HP.out.fd.below hk3)
        have HK : Hid (k ≠ b ∧ k ≠ b2 ∧ k ≠ g ∧ w.heap.size ≤ k ∧ FdB w5 k O ∧ PL w w5 b b2 g O L) := by
          have l1 := HP.out.fd.lt
          have l2 := HP.out.o2.lt
          have l3 := HP.out.ro.1
          have l4 := HP.out.bl.size
          exact ⟨by omega, by omega, by omega, by omega, hk2, HP.out.below hk3⟩
        clear hk1 hk2 hk3 HCL hP1
        go_wp2_with fail
        refine HO1.mono ?_
        rintro e w6 ⟨rfl, hF6, ht6⟩
        have HC1 : Calls Try.prog 15 #[.pointer (some ⟨b, 0, none⟩), .int .i64 0] w6 fun e w' => ∃ er, e = .returned (.int .i64 er) ∧ OneT b w6 w' := by
          by_cases ho : opn O1 0
          · exact (fclose_yes 0 w6 hF6 ho).mono fun e w' ⟨h1, _, h3⟩ => ⟨0, h1, h3⟩
          · exact (fclose_gen _ 0 w6 (fof_no b O1 0 ho w6 hF6)).mono fun e w' ⟨h1, h2⟩ => ⟨231, h1, by rw [h2]; exact OneT.of_below (Below.refl _ _)⟩
        have HT6 : Hid (OneT b w5 w6) := ht6
        clear hF6 ht6 HO1
        go_wp2_with fail
        refine HC1.mono ?_
        rintro e w7 ⟨er7, rfl, ht7⟩
        have HN7 : Hid (PL w w7 k b2 g O L) := by
          obtain ⟨k1, k2, k3, k4, k5, k6⟩ := HK.out
          have ht := HT6.out.tr ht7
          exact ⟨ht.fdb k5 k1, ht.fdb k6.o2 (fun q => k6.n2 q.symm), k6.ro.turn ht k6.n1, k6.ti, fun q => k3 q.symm, k2, k6.n3, k4, k6.l2, k6.bl.trans (ht.below k6.bl.size k6.l1)⟩
        clear ht7 HC1 HT6 HK
        go_wp2_with fail
        go_roundw
        case rel => exact ⟨i + 1, k, g, cc, O, L, HIN.out, by first | rfl | go_num | simp, rfl, rfl, HN7.out⟩
        case measure => have := HIN.out; simp [intOf]; omega
      · have HONE := one_any (c := cc) HP.out.ti kd fd xa xb xc HXB.out HP.out.n1 wr HP.out.fd HP.out.ro
        have hrr : wr.rangeAt ab (ao + i * 5) [.int .i64 kd, .int .i64 fd, .int .i64 xa, .int .i64 xb, .int .i64 xc] := ar
        clear ar
        go_wp2_with (first
          | (refine wpList_load_mid (by rfl) 31 _ (by rfl) ab (ao + i * 5) (by rfl) [.int .i64 kd, .int .i64 fd, .int .i64 xa, .int .i64 xb, .int .i64 xc] _ (by exact hrr) Try.underlying31 (by rfl) (a23_size.trans (by rfl)) ?_; simp only [Act.put, List.setIfInBounds_toArray, List.set_cons_zero, List.set_cons_succ])
          | fail)
        refine HONE.mono ?_
        rintro e w5 ⟨a5, m5, c5, O5, g5, L5, rfl, rfl, rfl, hF5, hR5, hT5, hn5, hg5, ht5⟩
        have HP5 : Hid (PL w w5 b b2 g5 O5 L5) := by
          have k6 := HP.out
          have l1 := k6.fd.lt
          have l2 := k6.o2.lt
          have l4 := k6.bl.size
          refine ⟨hF5, ht5.fdb k6.o2 (fun q => k6.n2 q.symm), hR5, hT5, hn5, k6.n2, ?_, k6.l1, ?_, k6.bl.trans (ht5.below k6.bl.size k6.l1)⟩
          · rcases hg5 with q | q
            · rw [q]; exact k6.n3
            · omega
          · rcases hg5 with q | q
            · rw [q]; exact k6.l2
            · omega
        have HSY := says_any (c := c5) hT5 fd I w5 hF5 hR5
        have a15 := HA1.out w5 HP5.out.bl
        clear hF5 hR5 hT5 hn5 hg5 ht5 HONE hrr a0 a1
        go_wp2_with fail
        refine HSY.mono ?_
        rintro e w6 ⟨rfl, hb6⟩
        have HP6 : Hid (PL w w6 b b2 g5 O5 L5) := HP5.out.below hb6
        clear hb6 HSY HP5 a15
        go_wp2_with fail
        go_roundw
        case rel => exact ⟨i + 1, b, g5, c5, O5, L5, HIN.out, by first | rfl | go_num | simp, rfl, rfl, HP6.out⟩
        case measure => have := HIN.out; simp [intOf]; omega
    · have i1 : ¬ ((i : Int) < (n : Int)) := by omega
      have HL0 : Calls Try.prog 18 #[.pointer (some ⟨b2, 0, none⟩)] wr fun e w' => e = .returned (.int .i64 0) ∧ Below wr.heap.size wr w' := by
        have := flen_any wr HP.out.o2
        have e : (soL (opP fun _ => ds0) 64).length = 0 := by decide
        rw [e] at this
        exact this
      clear hi hin
      go_wp2_with fail
      refine HL0.mono ?_
      rintro e w5 ⟨rfl, hb5⟩
      have HP5 : Hid (PL w w5 b b2 g O L) := HP.out.below hb5
      have HSY := says_any (c := cc) HP5.out.ti 0 I w5 HP5.out.fd HP5.out.ro
      clear hb5 HL0 HP
      go_wp2_with fail
      refine HSY.mono ?_
      rintro e w6 ⟨rfl, hb6⟩
      have HE : Hid (Below w.heap.size w w6) := HP5.out.bl.trans (hb6.mono HP5.out.bl.size)
      clear hb6 HSY HP5
      go_wp2_with fail
      go_ret
      exact ⟨rfl, HE.out⟩
end Go.Proofs.Ytldkmogennmldaa
