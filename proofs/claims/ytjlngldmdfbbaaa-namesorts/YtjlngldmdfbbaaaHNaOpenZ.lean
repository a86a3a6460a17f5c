/- A slice of entries as an argument, with its texts' sizes. -/
import Derived.Test.YtjlngldmdfbbaaaHSegsW
import Derived.Handy
import Derived.Test.YtjlngldmdfbbaaaHNaCmp2
import Derived.Test.YtjlngldmdfbbaaaHNaRSo
import Derived.Test.YtjlngldmdfbbaaaRows
import Derived.WalkKit
import Derived.ProofKit
import Derived.OpenShut
import Derived.Carry
import Derived.Deep.Slices
import Derived.Deep.MidRow
import Derived.Lib.SmallJoins
import Derived.SizedLaws
import Derived.SliceStrings
import Derived.ChangeArms
import Derived.Laws.AppendOwnNone

namespace Go.Proofs.Ytjlngldmdfbbaaa
set_option maxRecDepth 20000
open Go Go.RowKit
set_option linter.unusedVariables false
set_option linter.unusedSimpArgs false
set_option maxHeartbeats 4000000 in
theorem awake13_any (w : World) : Calls Try.prog 5 #[] w fun e w' => e = .returned (.bool true) ∧ Below w.heap.size w w' := by
  have HE : Hid (∀ w : World, Calls Try.prog 15 #[.agg #[.int .i64 1, .string ⟨#[97]⟩]] w fun e w' => e = .returned (.tuple #[.string (strN (entF 1 ⟨#[97]⟩) 64), .int .i64 0]) ∧ Below w.heap.size w w') := fun w => encode_ok ⟨#[97]⟩ 1 (by decide) (by decide) (by decide) w
  have HC1 : Hid (∀ w : World, Calls Try.prog 16 #[.string ⟨#[97]⟩] w fun e w' => e = .returned (.int .i64 0) ∧ Below w.heap.size w w') := fun w => check_any ⟨#[97]⟩ w
  have HC2 : Hid (∀ w : World, Calls Try.prog 16 #[.string ⟨#[47]⟩] w fun e w' => e = .returned (.int .i64 130) ∧ Below w.heap.size w w') := fun w => check_any ⟨#[47]⟩ w
  have hz := strN_size (entF 1 ⟨#[97]⟩) 64
  generalize strN (entF 1 ⟨#[97]⟩) 64 = tx at HE hz
  go_enter Try.func5, Try.ntmps5
  go_wp2_with fail
  refine (HE.out _).mono ?_
  intro e w2 hw2
  obtain ⟨he2, hw2⟩ := hw2
  subst he2
  go_wp2_with fail
  refine (HC1.out _).mono ?_
  intro e w3 hw3
  obtain ⟨he3, hw3⟩ := hw3
  subst he3
  have hb3 : Below w.heap.size w w3 := hw2.trans (hw3.mono hw2.size)
  clear hw2 hw3
  go_wp2_with fail
  refine (HC2.out _).mono ?_
  intro e w4 hw4
  obtain ⟨he4, hw4⟩ := hw4
  subst he4
  have HB4 : Hid (Below w.heap.size w w4) := hb3.trans (hw4.mono hb3.size)
  clear hb3 hw4
  go_wp2_with fail
  go_ret
  exact ⟨rfl, HB4.out⟩
end Go.Proofs.Ytjlngldmdfbbaaa

namespace Go.Proofs.Ytjlngldmdfbbaaa
open Go Go.RowKit Go.Nam
set_option linter.unusedVariables false
set_option linter.unusedSimpArgs false
set_option maxRecDepth 100000 in
set_option maxHeartbeats 8000000 in
theorem nameSortsLaw (a : Option Addr) (n c : Nat) (hn : n * 24 ≤ 140737488351232) (hN : a = none → n = 0 ∧ c = 0) (N : Nat → Int) (S : Nat → ByteArray) (hS : ∀ i, i < n → (S i).size ≤ 9223372036854775807) (w : World) (hI : IsLkC w a n N S) :
    Calls Try.prog 3 #[.slice a n c] w fun e w' => e = .returned (.bool true) ∧ Below w.heap.size w w' := by
  obtain ⟨i0, hi, hz0, hz1, hz2⟩ := info_parts infoLk
  have HN : Hid (n ≤ 4611686018427387904 ∧ n * 24 ≤ 140737488355328 ∧ n * 24 ≤ 140737488351232) := ⟨by omega, by omega, hn⟩
  have HA : Hid (∀ w : World, Calls Try.prog 5 #[] w fun e w' => e = .returned (.bool true) ∧ Below w.heap.size w w') := awake13_any
  have HG : Hid (∀ V, Below w.heap.size w V → Calls Try.prog 8 #[.slice a n c] V fun e w' => (∃ v, e = .returned v ∧ w'.ownsRow V.heap.size 41 2 v n (lkL N S n)) ∧ Below V.heap.size V w') := fun V hV => given_any a n c (by omega) N S V (hI.below hV)
  have HLO : Hid (∀ (V : World) B1 B2 t1 t2 va vb (M : Nat → Int) (T : Nat → ByteArray), V.ownsRow B1 t1 2 va n (lkL M T n) → V.ownsRow B2 t2 2 vb n (lkL M T n) → Calls Try.prog 6 #[va, vb] V fun e w' => e = .returned (.bool true) ∧ Below V.heap.size V w') := fun V B1 B2 t1 t2 va vb M T h1 h2 => by
    refine (links_own n B1 B2 t1 t2 va vb M T HN.out.1 V h1 h2).mono ?_
    rintro e w' ⟨rfl, m, rfl⟩
    exact ⟨rfl, bdrewN (Below.refl _ _) _⟩
  have HSR : Hid (∀ (V : World) B v, V.ownsRow B 41 2 v n (lkL N S n) → Calls Try.prog 7 #[v] V fun e w' => ∃ (v2 : Value) (R : List Lk), e = .returned v2 ∧ R.length = n ∧ SoR R ∧ R.Perm (liR N S n) ∧ w'.ownsRow V.heap.size 41 2 v2 n (lkR R) ∧ Below V.heap.size V w') := fun V B v h => by
    obtain ⟨a2, c2, rfl, h2, _⟩ := own_lkc h
    refine (rsorted_any a2 n c2 HN.out.2.2 N S hS V h2).mono ?_
    rintro e w' ⟨g2, c2, R, rfl, h1, h2, h3, h4, h5⟩
    exact ⟨_, R, rfl, h1, h2, h3, h4, h5⟩
  have hb0 : Below w.heap.size w (w.alloc (.cells #[] 30)) := (Below.refl _ w).alloc (Nat.le_refl _) _
  have HE : Hid ((w.alloc (.cells #[] 30)).ownsRow w.heap.size 30 2 (.slice (some ⟨w.heap.size, 0, none⟩) 0 0) 0 []) := kown_empty (Blk.new w 30 #[]) (Nat.le_refl _)
  have HC1 : Hid (IsLkC (w.alloc (.cells #[] 30)) a n N S) := hI.below hb0
  have HB0 : Hid (Below w.heap.size w (w.alloc (.cells #[] 30))) := hb0
  have HNN : Hid (a = none → n = 0 ∧ c = 0) := hN
  clear hI hS hb0 hN
  go_enter Try.func3, Try.ntmps3
  go_wp2_with (first
    | (at_builtin; refine wpList_append_links rfl _ _ 22 rfl w.heap.size 30 i0 (.agg #[.int .i64 0, .string ⟨#[]⟩]) Try.underlying22 hi hz0 hz1 hz2 rfl _ rfl HE.out a n c N S rfl HC1.out HNN.out HN.out.2.1 (by simp) ?_)
    | fail)
  intro v2 w2 ho2 hb2
  have hlt2 := ho2.lt
  obtain ⟨a2, c2, rfl, hk2, hn2⟩ := own_lkc ho2
  have HX : Hid (Calls _ _ _ _ _) := sorted_any a2 n c2 N S HN.out.2.1 w2 hk2 hn2
  have H2 : Hid (Below w.heap.size w w2 ∧ w2.ownsRow w.heap.size 30 2 (.slice a2 n c2) n (lkL N S n)) := ⟨HB0.out.trans (hb2.mono (Nat.le_refl _)), ho2⟩
  clear ho2 hb2 hlt2 hk2 hn2 HE HC1 HB0 HNN
  go_wp2_with fail
  refine HX.out.mono ?_
  rintro e w3 ⟨vx, s, rfl, hs, ho3, hso, hb3⟩
  have HSO : Hid (Pm 0 n s ∧ So LkL (En N S s) 0 n) := ⟨hs, hso⟩
  have H3 : Hid (Below w.heap.size w w3 ∧ w3.ownsRow w.heap.size 30 2 (.slice a2 n c2) n (lkL N S n) ∧ w3.ownsRow w2.heap.size 30 2 vx n (lkL (fun p => N (s p)) (fun p => S (s p)) n)) := ⟨H2.out.1.trans (hb3.mono H2.out.1.size), kown_below H2.out.2 hb3, ho3⟩
  have HIN : Hid (∀ z, (Value.slice a2 n c2).ownBlock = some z → z < w2.heap.size) := fun z hz => (H2.out.2.lt z hz).2
  have hW2 := H2.out.1.size
  clear hs ho3 hso hb3 HX H2
  go_wp2_with fail
  refine (HA.out _).mono ?_
  rintro e w4 ⟨rfl, hb4⟩
  have H4 : Hid (Below w.heap.size w w4 ∧ w4.ownsRow w.heap.size 30 2 (.slice a2 n c2) n (lkL N S n) ∧ w4.ownsRow w2.heap.size 30 2 vx n (lkL (fun p => N (s p)) (fun p => S (s p)) n)) := ⟨H3.out.1.trans (hb4.mono H3.out.1.size), kown_below H3.out.2.1 hb4, kown_below H3.out.2.2 hb4⟩
  clear hb4 H3
  go_wp2_with fail
  refine (HG.out w4 H4.out.1).mono ?_
  rintro e w5 ⟨⟨v5, rfl, ho5⟩, hb5⟩
  have H5 : Hid (Below w.heap.size w w5 ∧ w5.ownsRow w.heap.size 30 2 (.slice a2 n c2) n (lkL N S n) ∧ w5.ownsRow w2.heap.size 30 2 vx n (lkL (fun p => N (s p)) (fun p => S (s p)) n)) := ⟨H4.out.1.trans (hb5.mono H4.out.1.size), kown_below H4.out.2.1 hb5, kown_below H4.out.2.2 hb5⟩
  have HR5 : Hid (Calls _ _ _ _ _) := HSR.out w5 _ _ ho5
  clear hb5 ho5 H4
  go_wp2_with fail
  refine HR5.out.mono ?_
  rintro e w6 ⟨v6, R, rfl, hRl, hRs, hRp, ho6, hb6⟩
  have hRe : R = liR (fun p => N (s p)) (fun p => S (s p)) n := soR_eq hRs (so_soR HSO.out.2) (hRp.trans (en_perm N S HSO.out.1).symm)
  rw [hRe, liR_cells] at ho6
  have H6 : Hid (Below w.heap.size w w6 ∧ w6.ownsRow w.heap.size 30 2 (.slice a2 n c2) n (lkL N S n) ∧ w6.ownsRow w2.heap.size 30 2 vx n (lkL (fun p => N (s p)) (fun p => S (s p)) n)) := ⟨H5.out.1.trans (hb6.mono H5.out.1.size), kown_below H5.out.2.1 hb6, kown_below H5.out.2.2 hb6⟩
  have HL6 : Hid (Calls _ _ _ _ _) := HLO.out w6 _ _ _ _ vx v6 _ _ H6.out.2.2 ho6
  clear hRl hRs hRp hRe ho6 hb6 HR5 H5
  go_wp2_with fail
  refine HL6.out.mono ?_
  rintro e w7 ⟨rfl, hb7⟩
  have H7 : Hid (Below w.heap.size w w7 ∧ w7.ownsRow w.heap.size 30 2 (.slice a2 n c2) n (lkL N S n) ∧ w7.ownsRow w2.heap.size 30 2 vx n (lkL (fun p => N (s p)) (fun p => S (s p)) n)) := ⟨H6.out.1.trans (hb7.mono H6.out.1.size), kown_below H6.out.2.1 hb7, kown_below H6.out.2.2 hb7⟩
  clear hb7 HL6 H6
  go_wp2_with fail
  refine (HG.out w7 H7.out.1).mono ?_
  rintro e w8 ⟨⟨v8, rfl, ho8⟩, hb8⟩
  have H8 : Hid (Below w.heap.size w w8 ∧ w8.ownsRow w.heap.size 30 2 (.slice a2 n c2) n (lkL N S n) ∧ w8.ownsRow w2.heap.size 30 2 vx n (lkL (fun p => N (s p)) (fun p => S (s p)) n)) := ⟨H7.out.1.trans (hb8.mono H7.out.1.size), kown_below H7.out.2.1 hb8, kown_below H7.out.2.2 hb8⟩
  have HL8 : Hid (Calls _ _ _ _ _) := HLO.out w8 _ _ _ _ (.slice a2 n c2) v8 _ _ H8.out.2.1 ho8
  clear ho8 hb8 H7
  go_wp2_with fail
  refine HL8.out.mono ?_
  rintro e W ⟨rfl, hbW⟩
  have hox := kown_below H8.out.2.2 hbW
  obtain ⟨ax, cx, rfl⟩ := kown_slice hox
  have HW : Hid (Below w.heap.size w W ∧ W.ownsRow w.heap.size 30 2 (.slice a2 n c2) n (lkL N S n)) := ⟨H8.out.1.trans (hbW.mono H8.out.1.size), kown_below H8.out.2.1 hbW⟩
  have HOX : Hid (∃ ys, W.ownsRow w2.heap.size 30 2 (.slice ax n cx) n ys) := ⟨_, hox⟩
  have nb : (n : Int) ≤ 10000000000000 := by omega
  clear hbW hox HL8 H8
  go_wp2_with fail
  go_loopw [5] (fun v5 wr => Hid (∃ (i : Nat) (ys : List Value), i ≤ n ∧ v5 = .int .i64 (i : Int) ∧ wr.ownsRow w2.heap.size 30 2 (.slice ax n cx) n ys ∧ Below w2.heap.size W wr)) (fun v5 _ => n - (intOf v5).toNat)
  case atStart =>
    obtain ⟨ys, h⟩ := HOX.out
    exact ⟨0, ys, Nat.zero_le _, rfl, h, Below.refl _ _⟩
  case round =>
    obtain ⟨i, ys, hin, rfl, hox, hbr⟩ := Hid.out hrel
    clear hrel HOX
    by_cases hi2 : i < n
    · have i1 : (i : Int) < (n : Int) := by omega
      have i2 : (0 : Int) ≤ (i : Int) := by omega
      obtain ⟨gx, cap, e, hgx, _⟩ := kown_form hox (by omega)
      injection e with e1 _ e3
      subst e1 e3
      have hl := hox.1
      obtain ⟨u, hu⟩ : ∃ u, ys[i * 2 + 1]? = some u := ⟨_, List.getElem?_eq_getElem (by omega)⟩
      have hc : wr.cell? ⟨gx, i * 2 + 1, none⟩ = some u := by rw [hox.cellAt _ (by omega)]; exact hu
      have hf : wr.frozen? ⟨gx, i * 2 + 1, none⟩ = false := hox.frozenAt _
      have HS1 : Hid (_ ∧ Below w2.heap.size W (wr.setCell ⟨gx, i * 2 + 1, none⟩ (.string ⟨#[109, 97, 114, 107]⟩))) := ⟨(hox.stored (i * 2 + 1) (.string ⟨#[109, 97, 114, 107]⟩)).1, hbr.setCell (p := ⟨gx, i * 2 + 1, none⟩) hgx _⟩
      clear hox hbr hl hu
      go_wp2_with fail
      go_roundw
      case rel => exact ⟨i + 1, _, by omega, by first | rfl | go_num | simp, HS1.out.1, HS1.out.2⟩
      case measure => simp [intOf]; omega
    · have i1 : ¬ ((i : Int) < (n : Int)) := by omega
      have hbw : Below w.heap.size w wr := HW.out.1.trans (hbr.mono hW2)
      have hor : wr.ownsRow w.heap.size 30 2 (.slice a2 n c2) n (lkL N S n) := kown_kept HW.out.2 fun z _ hz => hbr.block z (HIN.out z hz)
      have H9 : Hid (_ ∧ _) := ⟨hbw, hor⟩
      clear hbw hor hox hbr
      go_wp2_with fail
      refine (HG.out wr H9.out.1).mono ?_
      rintro e w9 ⟨⟨v9, rfl, ho9⟩, hb9⟩
      have HL9 : Hid (Calls _ _ _ _ _) := HLO.out w9 _ _ _ _ (.slice a2 n c2) v9 _ _ (kown_below H9.out.2 hb9) ho9
      have HB9 : Hid (Below w.heap.size w w9) := H9.out.1.trans (hb9.mono H9.out.1.size)
      clear ho9 hb9
      go_wp2_with fail
      refine HL9.out.mono ?_
      rintro e w10 ⟨rfl, hb10⟩
      go_wp2_with fail
      go_ret
      exact ⟨rfl, HB9.out.trans (hb10.mono HB9.out.size)⟩
end Go.Proofs.Ytjlngldmdfbbaaa

namespace Go.Proofs.Ytjlngldmdfbbaaa
open Go.ChangeShapes Go.WideShapes Go.ChangeAt Go.RowKit Go.Joins
set_option linter.unusedVariables false
set_option linter.unusedSimpArgs false
set_option maxRecDepth 100000 in
theorem open_linksZ {H : Type} {enc : TypeId × Value → H} {W : World} {a0 : Option Addr} {len cap fuel : Nat} {x : DataW H × List MemPlace}
    (hf : DataW.trod enc Try.prog W 0 (fun _ => true) true fuel 22 [.slice a0 len cap] = some x) (hsz : ∀ n ∈ x.1.weights Try.prog 22, n ≤ reachBytes) :
    ∃ (NS : (Nat → Int) × (Nat → ByteArray)), len ≤ 9223372036854775807 ∧ len * 24 ≤ 140737488351232 ∧ (a0 = none → len = 0 ∧ cap = 0) ∧ IsLkC W a0 len NS.1 NS.2 ∧ ∀ i, i < len → (NS.2 i).size ≤ 9223372036854775807 := by
  rcases Deep.open_slice Try.underlying22 hf with ⟨hcs, hx⟩ | ⟨a, len', cap', m, n, D, Pl, hcs, _, hl, hm, hmm, hx, hel⟩
  · simp at hcs
    obtain ⟨rfl, rfl, rfl⟩ := hcs
    exact ⟨(fun _ => 0, fun _ => ⟨#[]⟩), by omega, by omega, fun _ => ⟨rfl, rfl⟩, fun i hi => absurd hi (by omega), fun i hi => absurd hi (by omega)⟩
  · simp at hcs
    obtain ⟨rfl, rfl, rfl⟩ := hcs
    subst hx
    simp only [if_true] at hmm
    subst hmm
    have hu := Try.underlying22
    have hby : Try.prog.bytesOf 30 = 24 := by kernel_rfl
    have hw0 := hsz ((((List.range len).map D).length + ((List.range (m - len)).map fun j => D (len + j)).length) * Try.prog.bytesOf 30) (by simp [DataW.weights, hu])
    rw [hby] at hw0
    simp only [List.length_map, List.length_range] at hw0
    have hlen4 : len * 24 ≤ 140737488351232 := by
      unfold reachBytes at hw0
      omega
    have hce : Try.prog.cellsOf 30 = 2 := by kernel_rfl
    have hci : Try.prog.cellsOf 3 = 1 := by kernel_rfl
    have hcu : Try.prog.cellsOf 9 = 1 := by kernel_rfl
    have hsp : 0 < len → a.spot = none := fun h0 => by
      obtain ⟨cs', h1, _⟩ := hel 0 (by omega)
      rw [hce] at h1
      obtain ⟨_, hcl, hcell⟩ := World.cells?_some h1
      match cs', hcl with
      | [v0, v1], _ => simpa [Addr.add] using World.cell?_spot (hcell 0 (by omega))
    have each : ∀ i, ∃ q : Int × ByteArray, i < len → ∃ b o, a = ⟨b, o, none⟩ ∧ b < W.heap.size ∧ W.cell? ⟨b, o + i * 2, none⟩ = some (.int .i64 q.1) ∧ W.cell? ⟨b, o + i * 2 + 1, none⟩ = some (.string q.2) ∧ q.2.size ≤ 9223372036854775807 := by
      intro i
      by_cases hi : i < len
      · obtain ⟨cs', h1, h2⟩ := hel i (by omega)
        rw [hce] at h1
        obtain ⟨_, hcl, hcell⟩ := World.cells?_some h1
        obtain ⟨xs, k, hk, hxy, _, hxl, hfs⟩ := DataW.trod_struct Try.underlying30 h2
        match xs, hxl, cs', hcl with
        | [y0, y1], _, [v0, v1], _ =>
          have g0 := hfs 0 _ rfl
          have g1 := hfs 1 _ rfl
          simp [hci, hcu] at g0 g1
          obtain ⟨p, e0, _, w0⟩ := DataW.trod_int Try.underlying3 g0
          obtain ⟨r, e1, _, w1⟩ := DataW.trod_string Try.underlying9 g1
          simp at e0 e1
          subst e0 e1
          refine ⟨(p, r), fun _ => ?_⟩
          have c0 := hcell 0 (by decide)
          have c1 := hcell 1 (by decide)
          obtain ⟨b, off, spot⟩ := a
          have hspot : spot = none := hsp (by omega)
          subst hspot
          simp only [Addr.add_mid, List.getElem?_cons_zero, List.getElem?_cons_succ] at c0 c1
          exact ⟨b, off, rfl, lcell_lt c0, c0, c1, by unfold maxLen at w1; omega⟩
      · exact ⟨(0, ⟨#[]⟩), fun h => absurd h hi⟩
    refine ⟨(fun i => (Classical.choose (each i)).1, fun i => (Classical.choose (each i)).2), by omega, hlen4, fun h => by simp at h, fun i hi => ?_, fun i hi => ?_⟩
    · obtain ⟨b, o, rfl, h1, h2, h3, _⟩ := Classical.choose_spec (each i) hi
      exact ⟨b, o, rfl, h1, h2, h3⟩
    · obtain ⟨b, o, _, h1, h2, h3, h4⟩ := Classical.choose_spec (each i) hi
      exact h4
end Go.Proofs.Ytjlngldmdfbbaaa
