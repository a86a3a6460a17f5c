/- Two maps of bits held against each other and put together: Same, with, Either, Less, Cross: the contracts. -/
import Derived.Test.YtjbmhocmpgkmoaaDoorHBiNil
import Derived.Handy
import Derived.Test.YtjbmhocmpgkmoaaDoorHMathDigest

namespace Go.Proofs.YtjbmhocmpgkmoaaDoor
open Go Go.RowKit
set_option linter.unusedVariables false
set_option linter.unusedSimpArgs false
/-- a slice of deeds, handed in -/
def IsDeeds (w : World) (a : Option Addr) (N : Nat) (K A Z : Nat → Int) : Prop :=
  ∀ i, i < N → ∃ b o, a = some ⟨b, o, none⟩ ∧ b < w.heap.size ∧ w.cell? ⟨b, o + i * 3, none⟩ = some (.int .i64 (K i)) ∧ w.cell? ⟨b, o + i * 3 + 1, none⟩ = some (.int .i64 (A i)) ∧ w.cell? ⟨b, o + i * 3 + 2, none⟩ = some (.int .i64 (Z i)) ∧ (-9223372036854775808 ≤ A i ∧ A i ≤ 9223372036854775807) ∧ (-9223372036854775808 ≤ Z i ∧ Z i ≤ 9223372036854775807)
theorem IsDeeds.below {w w' : World} {a : Option Addr} {N : Nat} {K A Z : Nat → Int} (h : IsDeeds w a N K A Z) (hb : Below w.heap.size w w') : IsDeeds w' a N K A Z := fun i hi => by
  obtain ⟨b, o, e, h1, h2, h3, h4, h5⟩ := h i hi
  have hblk := hb.block b h1
  refine ⟨b, o, e, Nat.lt_of_lt_of_le h1 hb.size, ?_, ?_, ?_, h5⟩
  · rw [← h2]; simp [World.cell?, hblk]
  · rw [← h3]; simp [World.cell?, hblk]
  · rw [← h4]; simp [World.cell?, hblk]
/-- a map and the list of what it must say -/
structure MK (w : World) (B g n b c k : Nat) (W : Nat → Nat) : Prop where
  m : BM w B g n b c W
  a : BA w B k n n (bitF W)
def Pl (w : World) (B n k : Nat) (v : Value) : Prop := ∃ g b c W, v = .pointer (some ⟨g, 0, none⟩) ∧ MK w B g n b c k W
section
variable {w w' : World} {B g n b c k : Nat} {W : Nat → Nat}
theorem MK.dN (h : MK w B g n b c k W) (m : Nat) : MK (w.drewN m) B g n b c k W := ⟨h.m.dN m, h.a.dN m⟩
theorem MK.below (h : MK w B g n b c k W) (hb : Below w.heap.size w w') : MK w' B g n b c k W := ⟨h.m.below hb, h.a.below hb⟩
/-- behind a Set: the list's bool laid, too -/
theorem MK.put (hA : BA w B k n n (bitF W)) {p : Nat} {x : Bool} {V : Nat → Nat} (hM : BM w B g n b c V) (he : ∀ q, bitF V q = if q = p then x else bitF W q) : MK (w.setCell ⟨k, p, none⟩ (.bool x)) B g n b c k V := by
  have h1 := hA.ne hM
  refine ⟨hM.only (Only.set w k p (.bool x)) h1.1 h1.2, ?_⟩
  exact (hA.put p x).congr fun i hi => (he i).symm
theorem put_if (W : Nat → Nat) (p q : Nat) : bitF (putW W p) q = if q = p then true else bitF W q := by
  rw [bitF_put]; by_cases h : q = p <;> simp [h]
theorem clr_if (W : Nat → Nat) (p q : Nat) : bitF (clrW W p) q = if q = p then false else bitF W q := by
  rw [bitF_clr]; by_cases h : q = p <;> simp [h]
theorem played_no (p : Int) (hp : p < 1 ∨ 8192 < p) (v : Value) (w : World) : Calls Tryd.prog 6 #[.int .i64 p, v] w fun e w' => e = .returned (.tuple #[.pointer none, .slice none 0 0, .bool true]) ∧ w' = w := by
  have HN := newM_no p hp
  have HP : Hid (p < 1 ∨ 8192 < p) := hp
  by_cases h1 : p < 1
  · go_enter Tryd.func6, Tryd.ntmps6
    go_wp2_with fail
    refine (HN _).mono ?_
    rintro e w' ⟨rfl, rfl⟩
    go_wp2_with fail
    refine bodyPost_ret (results_tmp3 rfl _ _ _) rfl ?_
    exact ⟨rfl, rfl⟩
  · have h2 : 8192 < p := by omega
    go_enter Tryd.func6, Tryd.ntmps6
    go_wp2_with fail
    refine (HN _).mono ?_
    rintro e w' ⟨rfl, rfl⟩
    go_wp2_with fail
    refine bodyPost_ret (results_tmp3 rfl _ _ _) rfl ?_
    exact ⟨rfl, rfl⟩
set_option maxRecDepth 100000 in
set_option maxHeartbeats 8000000 in
theorem played_ok (h1 : 1 ≤ n) (h2 : n ≤ 8192) (a : Option Addr) (N cc : Nat) (hN : N ≤ 9223372036854775807) (K A Z : Nat → Int) (w : World) (hD : IsDeeds w a N K A Z) : Calls Tryd.prog 6 #[.int .i64 (n : Int), .slice a N cc] w fun e w' => ∃ g k, e = .returned (.tuple #[.pointer (some ⟨g, 0, none⟩), .slice (some ⟨k, 0, none⟩) n n, .bool true]) ∧ (∃ b c W, MK w' w.heap.size g n b c k W) ∧ Below w.heap.size w w' := by
  have HN := newM_ok n h1 h2 w
  have a1 : ¬ ((n : Int) < 1) := by omega
  have a2 : ¬ ((8192 : Int) < (n : Int)) := by omega
  have hmk := make_bools n h2
  have HD : Hid (∀ V : World, Below w.heap.size w V → IsDeeds V a N K A Z) := fun V hV => hD.below hV
  clear hD
  go_enter Tryd.func6, Tryd.ntmps6
  go_wp2_with fail
  refine HN.mono ?_
  rintro e w1 ⟨g0, b0, c0, rfl, hM0, hb0⟩
  have HM1 : Hid (MK (w1.alloc (.cells (va n fun _ => .bool false) 4)) w.heap.size g0 n b0 c0 w1.heap.size (fun _ => 0)) := ⟨hM0.below (below_new1 _ _), ⟨h2, by
    have : boL (bitF fun _ => 0) n = (List.range n).map fun _ => Value.bool false := List.map_congr_left fun i _ => by rw [bitF_zero]
    rw [this]
    exact own_made1 (Blk.new _ _ _) h2 _ hb0.size⟩⟩
  have HB1 : Hid (Below w.heap.size w (w1.alloc (.cells (va n fun _ => .bool false) 4))) := hb0.alloc hb0.size _
  clear hM0 HN
  go_wp2_with fail
  generalize hw2 : w1.alloc (.cells (va n fun _ => .bool false) 4) = w2 at *
  clear hw2
  generalize hkb : w1.heap.size = kb at *
  clear hkb hb0
  go_loopw [7, 10] (fun m t wr => ∃ j : Nat, j ≤ N ∧ t = .int .i64 (j : Int) ∧ Pl wr w.heap.size n kb m ∧ Below w.heap.size w wr) (fun _ t _ => N - (intOf t).toNat)
  case atStart => exact ⟨0, by omega, rfl, ⟨_, _, _, _, rfl, HM1.out⟩, HB1.out⟩
  case round =>
    clear HM1 HB1
    obtain ⟨j, hj, rfl, ⟨g, b, c, W, rfl, hM⟩, hb⟩ := hrel
    by_cases hlt : j < N
    · obtain ⟨ab, ao, rfl, hab, ck, ca, cz, bA, bZ⟩ := HD.out wr hb j hlt
      have j0 : (0 : Int) ≤ (j : Int) := by omega
      have j1 : (j : Int) < (N : Int) := by omega
      have HJ : Hid (j < N ∧ N ≤ 9223372036854775807) := ⟨hlt, hN⟩
      have HM : Hid (∀ m, MK (wr.drewN m) w.heap.size g n b c kb W) := fun m => hM.dN m
      have HB : Hid (∀ m, Below w.heap.size w (wr.drewN m)) := fun m => below_dN hb m
      have hjw : wrap64 ((j : Int) + 1) = ((j + 1 : Nat) : Int) := by rw [w64, wrapI64_id _ (by omega) (by omega)]; omega
      clear hM hb hj hlt
      generalize K j = kj at *
      generalize A j = aj at *
      generalize Z j = zj at *
      by_cases hk0 : kj = 0
      · subst hk0
        by_cases hin : 0 ≤ aj ∧ aj < (n : Int)
        · obtain ⟨p, rfl⟩ := Int.eq_ofNat_of_zero_le hin.1
          have p1 : (p : Int) < (n : Int) := hin.2
          have HPN : Hid (p < n) := by show p < n; omega
          clear hin
          go_wp2_with fail
          go_quiet (fail)
          generalize hdr : wr.drewN _ = w3 at *
          have hM3 : MK w3 w.heap.size g n b c kb W := by rw [← hdr]; exact HM.out _
          have hb3 : Below w.heap.size w w3 := by rw [← hdr]; exact HB.out _
          have ck3 : w3.cell? ⟨ab, ao + j * 3, none⟩ = some (.int .i64 0) := by rw [← hdr]; exact ck
          clear hdr ck ca cz HM HB
          go_wp2_with fail
          refine (set_in w3 hM3.m p HPN.out).mono ?_
          rintro e w4 ⟨rfl, hM4, ho4⟩
          have hA4 : BA w4 w.heap.size kb n n (bitF W) := hM3.a.only ho4 (hM3.a.ne hM3.m).2
          have c4 := hA4.at HPN.out
          have f4 := hA4.frozen p
          have hb4 : Below w.heap.size w w4 := hb3.trans (ho4.below hb3.size hM3.m.blt.1)
          have HM5 : Hid (MK (w4.setCell ⟨kb, p, none⟩ (.bool true)) w.heap.size g n b c kb (putW W p)) := MK.put hA4 hM4 fun q => put_if W p q
          have HB5 : Hid (Below w.heap.size w (w4.setCell ⟨kb, p, none⟩ (.bool true))) := hb4.setCell (p := ⟨kb, p, none⟩) hA4.lt.1 _
          clear hM3 hM4 ho4 hA4 hb3 hb4
          generalize bitF W p = bp at *
          cases bp
          · go_wp2_with fail
            go_roundw
            case rel => exact ⟨j + 1, HJ.out.1, by first | rfl | go_num | simp, ⟨_, _, _, _, rfl, HM5.out⟩, HB5.out⟩
            case measure => simp [intOf]; have := HJ.out; omega
          · go_wp2_with fail
            go_roundw
            case rel => exact ⟨j + 1, HJ.out.1, by first | rfl | go_num | simp, ⟨_, _, _, _, rfl, HM5.out⟩, HB5.out⟩
            case measure => simp [intOf]; have := HJ.out; omega
        · have HY : Hid (aj < 0 ∨ (n : Int) ≤ aj) := by show aj < 0 ∨ (n : Int) ≤ aj; omega
          by_cases hneg : 0 ≤ aj
          · have hge : ¬ (aj < (n : Int)) := by omega
            clear hin
            go_wp2_with fail
            go_quiet (fail)
            generalize hdr : wr.drewN _ = w3 at *
            have hM3 : MK w3 w.heap.size g n b c kb W := by rw [← hdr]; exact HM.out _
            have hb3 : Below w.heap.size w w3 := by rw [← hdr]; exact HB.out _
            have ck3 : w3.cell? ⟨ab, ao + j * 3, none⟩ = some (.int .i64 0) := by rw [← hdr]; exact ck
            clear hdr ck ca cz HM HB
            go_wp2_with fail
            refine (set_not w3 hM3.m aj (by rcases HY.out with z | z; exact .inl z; exact .inr (.inl z))).mono ?_
            rintro e w4 ⟨rfl, md, rfl⟩
            have HM5 : Hid (MK (w3.drewN md) w.heap.size g n b c kb W) := hM3.dN md
            have HB5 : Hid (Below w.heap.size w (w3.drewN md)) := below_dN hb3 md
            go_wp2_with fail
            go_roundw
            case rel => exact ⟨j + 1, HJ.out.1, by first | rfl | go_num | simp, ⟨_, _, _, _, rfl, HM5.out⟩, HB5.out⟩
            case measure => simp [intOf]; have := HJ.out; omega
          · clear hin
            go_wp2_with fail
            go_quiet (fail)
            generalize hdr : wr.drewN _ = w3 at *
            have hM3 : MK w3 w.heap.size g n b c kb W := by rw [← hdr]; exact HM.out _
            have hb3 : Below w.heap.size w w3 := by rw [← hdr]; exact HB.out _
            have ck3 : w3.cell? ⟨ab, ao + j * 3, none⟩ = some (.int .i64 0) := by rw [← hdr]; exact ck
            clear hdr ck ca cz HM HB
            go_wp2_with fail
            refine (set_not w3 hM3.m aj (by rcases HY.out with z | z; exact .inl z; exact .inr (.inl z))).mono ?_
            rintro e w4 ⟨rfl, md, rfl⟩
            have HM5 : Hid (MK (w3.drewN md) w.heap.size g n b c kb W) := hM3.dN md
            have HB5 : Hid (Below w.heap.size w (w3.drewN md)) := below_dN hb3 md
            go_wp2_with fail
            go_roundw
            case rel => exact ⟨j + 1, HJ.out.1, by first | rfl | go_num | simp, ⟨_, _, _, _, rfl, HM5.out⟩, HB5.out⟩
            case measure => simp [intOf]; have := HJ.out; omega
      · by_cases hk1 : kj = 1
        · subst hk1
          by_cases hin : 0 ≤ aj ∧ aj < (n : Int)
          · obtain ⟨p, rfl⟩ := Int.eq_ofNat_of_zero_le hin.1
            have p1 : (p : Int) < (n : Int) := hin.2
            have HPN : Hid (p < n) := by show p < n; omega
            clear hin
            go_wp2_with fail
            go_quiet (fail)
            generalize hdr : wr.drewN _ = w3 at *
            have hM3 : MK w3 w.heap.size g n b c kb W := by rw [← hdr]; exact HM.out _
            have hb3 : Below w.heap.size w w3 := by rw [← hdr]; exact HB.out _
            have ck3 : w3.cell? ⟨ab, ao + j * 3, none⟩ = some (.int .i64 1) := by rw [← hdr]; exact ck
            clear hdr ck ca cz HM HB
            go_wp2_with fail
            refine (clear_in w3 hM3.m p HPN.out).mono ?_
            rintro e w4 ⟨rfl, hM4, ho4⟩
            have hA4 : BA w4 w.heap.size kb n n (bitF W) := hM3.a.only ho4 (hM3.a.ne hM3.m).2
            have c4 := hA4.at HPN.out
            have f4 := hA4.frozen p
            have hb4 : Below w.heap.size w w4 := hb3.trans (ho4.below hb3.size hM3.m.blt.1)
            have HM5 : Hid (MK (w4.setCell ⟨kb, p, none⟩ (.bool false)) w.heap.size g n b c kb (clrW W p)) := MK.put hA4 hM4 fun q => clr_if W p q
            have HB5 : Hid (Below w.heap.size w (w4.setCell ⟨kb, p, none⟩ (.bool false))) := hb4.setCell (p := ⟨kb, p, none⟩) hA4.lt.1 _
            clear hM3 hM4 ho4 hA4 hb3 hb4
            generalize bitF W p = bp at *
            cases bp
            · go_wp2_with fail
              go_roundw
              case rel => exact ⟨j + 1, HJ.out.1, by first | rfl | go_num | simp, ⟨_, _, _, _, rfl, HM5.out⟩, HB5.out⟩
              case measure => simp [intOf]; have := HJ.out; omega
            · go_wp2_with fail
              go_roundw
              case rel => exact ⟨j + 1, HJ.out.1, by first | rfl | go_num | simp, ⟨_, _, _, _, rfl, HM5.out⟩, HB5.out⟩
              case measure => simp [intOf]; have := HJ.out; omega
          · have HY : Hid (aj < 0 ∨ (n : Int) ≤ aj) := by show aj < 0 ∨ (n : Int) ≤ aj; omega
            by_cases hneg : 0 ≤ aj
            · have hge : ¬ (aj < (n : Int)) := by omega
              clear hin
              go_wp2_with fail
              go_quiet (fail)
              generalize hdr : wr.drewN _ = w3 at *
              have hM3 : MK w3 w.heap.size g n b c kb W := by rw [← hdr]; exact HM.out _
              have hb3 : Below w.heap.size w w3 := by rw [← hdr]; exact HB.out _
              have ck3 : w3.cell? ⟨ab, ao + j * 3, none⟩ = some (.int .i64 1) := by rw [← hdr]; exact ck
              clear hdr ck ca cz HM HB
              go_wp2_with fail
              refine (clear_not w3 hM3.m aj (by rcases HY.out with z | z; exact .inl z; exact .inr (.inl z))).mono ?_
              rintro e w4 ⟨rfl, md, rfl⟩
              have HM5 : Hid (MK (w3.drewN md) w.heap.size g n b c kb W) := hM3.dN md
              have HB5 : Hid (Below w.heap.size w (w3.drewN md)) := below_dN hb3 md
              go_wp2_with fail
              go_roundw
              case rel => exact ⟨j + 1, HJ.out.1, by first | rfl | go_num | simp, ⟨_, _, _, _, rfl, HM5.out⟩, HB5.out⟩
              case measure => simp [intOf]; have := HJ.out; omega
            · clear hin
              go_wp2_with fail
              go_quiet (fail)
              generalize hdr : wr.drewN _ = w3 at *
              have hM3 : MK w3 w.heap.size g n b c kb W := by rw [← hdr]; exact HM.out _
              have hb3 : Below w.heap.size w w3 := by rw [← hdr]; exact HB.out _
              have ck3 : w3.cell? ⟨ab, ao + j * 3, none⟩ = some (.int .i64 1) := by rw [← hdr]; exact ck
              clear hdr ck ca cz HM HB
              go_wp2_with fail
              refine (clear_not w3 hM3.m aj (by rcases HY.out with z | z; exact .inl z; exact .inr (.inl z))).mono ?_
              rintro e w4 ⟨rfl, md, rfl⟩
              have HM5 : Hid (MK (w3.drewN md) w.heap.size g n b c kb W) := hM3.dN md
              have HB5 : Hid (Below w.heap.size w (w3.drewN md)) := below_dN hb3 md
              go_wp2_with fail
              go_roundw
              case rel => exact ⟨j + 1, HJ.out.1, by first | rfl | go_num | simp, ⟨_, _, _, _, rfl, HM5.out⟩, HB5.out⟩
              case measure => simp [intOf]; have := HJ.out; omega
        · by_cases hk2 : kj = 2
          · subst hk2
            by_cases hok : 0 ≤ aj ∧ aj ≤ zj ∧ zj ≤ (n : Int)
            · obtain ⟨x, rfl⟩ := Int.eq_ofNat_of_zero_le hok.1
              obtain ⟨y, rfl⟩ := Int.eq_ofNat_of_zero_le (a := zj) (by omega)
              have x1 : (x : Int) ≤ (y : Int) := hok.2.1
              have y1 : (y : Int) ≤ (n : Int) := hok.2.2
              have HXY : Hid (x ≤ y ∧ y ≤ n) := ⟨by omega, by omega⟩
              clear hok
              go_wp2_with fail
              go_quiet (fail)
              generalize hdr : wr.drewN _ = w3 at *
              have hM3 : MK w3 w.heap.size g n b c kb W := by rw [← hdr]; exact HM.out _
              have hb3 : Below w.heap.size w w3 := by rw [← hdr]; exact HB.out _
              have ck3 : w3.cell? ⟨ab, ao + j * 3, none⟩ = some (.int .i64 2) := by rw [← hdr]; exact ck
              clear hdr ck ca cz HM HB
              have HF := fill_ok w3 hM3.m x y HXY.out.1 HXY.out.2
              have hA3 := hM3.a
              have hne3 := (hM3.a.ne hM3.m).2
              have hbl3 := hM3.m.blt.1
              clear hM3
              go_wp2_with fail
              refine HF.mono ?_
              rintro e w4 ⟨rfl, W', hM4, hbits, ho4⟩
              have HBITS : Hid (∀ p, bitF W' p = filF (bitF W) x y p) := hbits
              have hA4 : BA w4 w.heap.size kb n n (bitF W) := hA3.only ho4 hne3
              have hb4 : Below w.heap.size w w4 := hb3.trans (ho4.below hb3.size hbl3)
              clear hbits ho4 hA3 hb3 HF
              go_wp2_with fail
              go_loopw [15] (fun t wr2 => ∃ q : Nat, x ≤ q ∧ q ≤ y ∧ t = .int .i64 (q : Int) ∧ BM wr2 w.heap.size g n b c W' ∧ BA wr2 w.heap.size kb n n (filF (bitF W) x q) ∧ Below w.heap.size w wr2) (fun t _ => y - (intOf t).toNat)
              case atStart =>
                refine ⟨x, Nat.le_refl _, HXY.out.1, rfl, hM4, hA4.congr fun i _ => ?_, hb4⟩
                unfold filF
                have : (decide (x ≤ i) && decide (i < x)) = false := by simp
                rw [this]
                rfl
              case round =>
                clear hM4 hA4 hb4
                obtain ⟨q, q1, q2, rfl, hM5, hA5, hb5⟩ := hrel
                by_cases hqy : q < y
                · have k1 : (q : Int) < (y : Int) := by omega
                  have k2 : (q : Int) < (n : Int) := by omega
                  have HQ : Hid (q < y ∧ x ≤ q) := ⟨hqy, q1⟩
                  have c5 := hA5.at (show q < n by omega)
                  have f5 := hA5.frozen q
                  have hne5 := hA5.ne hM5
                  have HM6 : Hid (BM (wr.setCell ⟨kb, q, none⟩ (.bool true)) w.heap.size g n b c W') := hM5.only (Only.set _ kb q _) hne5.1 hne5.2
                  have HA6 : Hid (BA (wr.setCell ⟨kb, q, none⟩ (.bool true)) w.heap.size kb n n (filF (bitF W) x (q + 1))) := (hA5.put q true).congr fun i _ => by
                    unfold filF
                    by_cases hi : i = q
                    · subst hi; simp; omega
                    · have e1 : decide (i < q + 1) = decide (i < q) := by apply decide_eq_decide.2; omega
                      rw [if_neg hi, e1]
                  have HB6 : Hid (Below w.heap.size w (wr.setCell ⟨kb, q, none⟩ (.bool true))) := hb5.setCell (p := ⟨kb, q, none⟩) hA5.lt.1 _
                  clear hM5 hA5 hb5 hne5
                  go_wp2_with fail
                  go_roundw
                  case rel => exact ⟨q + 1, by have := HQ.out; omega, HQ.out.1, by first | rfl | go_num | simp, HM6.out, HA6.out, HB6.out⟩
                  case measure => simp [intOf]; have := HQ.out; omega
                · obtain rfl : q = y := by omega
                  have k1 : ¬ ((q : Int) < (q : Int)) := by omega
                  have HM6 : Hid (MK wr w.heap.size g n b c kb W') := ⟨hM5, hA5.congr fun i _ => (HBITS.out i).symm⟩
                  clear hM5 hA5
                  go_wp2_with fail
                  go_roundw
                  case rel => exact ⟨j + 1, HJ.out.1, by first | rfl | go_num | simp, ⟨_, _, _, _, rfl, HM6.out⟩, hb5⟩
                  case measure => simp [intOf]; have := HJ.out; omega
            · by_cases hneg : 0 ≤ aj
              · by_cases hle : aj ≤ zj
                · have hgt : ¬ (zj ≤ (n : Int)) := by omega
                  have HY : Hid (aj < 0 ∨ zj < aj ∨ (n : Int) < zj) := by show aj < 0 ∨ zj < aj ∨ (n : Int) < zj; omega
                  clear hok
                  go_wp2_with fail
                  go_quiet (fail)
                  generalize hdr : wr.drewN _ = w3 at *
                  have hM3 : MK w3 w.heap.size g n b c kb W := by rw [← hdr]; exact HM.out _
                  have hb3 : Below w.heap.size w w3 := by rw [← hdr]; exact HB.out _
                  have ck3 : w3.cell? ⟨ab, ao + j * 3, none⟩ = some (.int .i64 2) := by rw [← hdr]; exact ck
                  clear hdr ck ca cz HM HB
                  have HF := fill_no w3 hM3.m aj zj HY.out
                  go_wp2_with fail
                  refine HF.mono ?_
                  intro e w4 hw4
                  obtain ⟨he4, hw4⟩ := hw4
                  subst he4
                  subst hw4
                  go_wp2_with fail
                  go_loop [15] (fun t => t = .int .i64 aj) (fun _ => 0)
                  case atStart => rfl
                  case round =>
                    subst hrel
                    by_cases hlz : aj < zj
                    · go_wp2_with fail
                      go_roundw
                      case rel => exact ⟨j + 1, HJ.out.1, by first | rfl | go_num | simp, ⟨_, _, _, _, rfl, hM3⟩, hb3⟩
                      case measure => simp [intOf]; have := HJ.out; omega
                    · go_wp2_with fail
                      go_roundw
                      case rel => exact ⟨j + 1, HJ.out.1, by first | rfl | go_num | simp, ⟨_, _, _, _, rfl, hM3⟩, hb3⟩
                      case measure => simp [intOf]; have := HJ.out; omega
                · have HY : Hid (aj < 0 ∨ zj < aj ∨ (n : Int) < zj) := by show aj < 0 ∨ zj < aj ∨ (n : Int) < zj; omega
                  clear hok
                  go_wp2_with fail
                  go_quiet (fail)
                  generalize hdr : wr.drewN _ = w3 at *
                  have hM3 : MK w3 w.heap.size g n b c kb W := by rw [← hdr]; exact HM.out _
                  have hb3 : Below w.heap.size w w3 := by rw [← hdr]; exact HB.out _
                  have ck3 : w3.cell? ⟨ab, ao + j * 3, none⟩ = some (.int .i64 2) := by rw [← hdr]; exact ck
                  clear hdr ck ca cz HM HB
                  have HF := fill_no w3 hM3.m aj zj HY.out
                  go_wp2_with fail
                  refine HF.mono ?_
                  intro e w4 hw4
                  obtain ⟨he4, hw4⟩ := hw4
                  subst he4
                  subst hw4
                  go_wp2_with fail
                  go_loop [15] (fun t => t = .int .i64 aj) (fun _ => 0)
                  case atStart => rfl
                  case round =>
                    subst hrel
                    by_cases hlz : aj < zj
                    · go_wp2_with fail
                      go_roundw
                      case rel => exact ⟨j + 1, HJ.out.1, by first | rfl | go_num | simp, ⟨_, _, _, _, rfl, hM3⟩, hb3⟩
                      case measure => simp [intOf]; have := HJ.out; omega
                    · go_wp2_with fail
                      go_roundw
                      case rel => exact ⟨j + 1, HJ.out.1, by first | rfl | go_num | simp, ⟨_, _, _, _, rfl, hM3⟩, hb3⟩
                      case measure => simp [intOf]; have := HJ.out; omega
              · have HY : Hid (aj < 0 ∨ zj < aj ∨ (n : Int) < zj) := by show aj < 0 ∨ zj < aj ∨ (n : Int) < zj; omega
                clear hok
                go_wp2_with fail
                go_quiet (fail)
                generalize hdr : wr.drewN _ = w3 at *
                have hM3 : MK w3 w.heap.size g n b c kb W := by rw [← hdr]; exact HM.out _
                have hb3 : Below w.heap.size w w3 := by rw [← hdr]; exact HB.out _
                have ck3 : w3.cell? ⟨ab, ao + j * 3, none⟩ = some (.int .i64 2) := by rw [← hdr]; exact ck
                clear hdr ck ca cz HM HB
                have HF := fill_no w3 hM3.m aj zj HY.out
                go_wp2_with fail
                refine HF.mono ?_
                intro e w4 hw4
                obtain ⟨he4, hw4⟩ := hw4
                subst he4
                subst hw4
                go_wp2_with fail
                go_loop [15] (fun t => t = .int .i64 aj) (fun _ => 0)
                case atStart => rfl
                case round =>
                  subst hrel
                  by_cases hlz : aj < zj
                  · go_wp2_with fail
                    go_roundw
                    case rel => exact ⟨j + 1, HJ.out.1, by first | rfl | go_num | simp, ⟨_, _, _, _, rfl, hM3⟩, hb3⟩
                    case measure => simp [intOf]; have := HJ.out; omega
                  · go_wp2_with fail
                    go_roundw
                    case rel => exact ⟨j + 1, HJ.out.1, by first | rfl | go_num | simp, ⟨_, _, _, _, rfl, hM3⟩, hb3⟩
                    case measure => simp [intOf]; have := HJ.out; omega
          · by_cases hk3 : kj = 3
            · subst hk3
              by_cases hneg : 0 ≤ aj
              · skip
                go_wp2_with fail
                go_quiet (fail)
                generalize hdr : wr.drewN _ = w3 at *
                have hM3 : MK w3 w.heap.size g n b c kb W := by rw [← hdr]; exact HM.out _
                have hb3 : Below w.heap.size w w3 := by rw [← hdr]; exact HB.out _
                have ck3 : w3.cell? ⟨ab, ao + j * 3, none⟩ = some (.int .i64 3) := by rw [← hdr]; exact ck
                clear hdr ck ca cz HM HB
                go_wp2_with fail
                refine (bclone_any w3 hM3.m).mono ?_
                rintro e w4 ⟨g', b', c', rfl, hC4, hb4⟩
                have hM4 := hM3.below hb4
                have hbw4 : Below w.heap.size w w4 := hb3.trans (hb4.mono hb3.size)
                have hlt4 := hM3.m.blt
                have hC4g := hC4.gB
                have hC4b := hC4.blt
                have hsz3 := hb3.size
                have HSET : Hid (Calls Tryd.prog 39 #[.pointer (some ⟨g, 0, none⟩), .int .i64 0] w4 fun e w' => e = .returned (.bool (!bitF W 0)) ∧ BM w' w.heap.size g n b c (putW W 0) ∧ Only b w4 w') := set_in w4 hM4.m 0 h1
                go_wp2_with fail
                refine HSET.out.mono ?_
                rintro e w5 ⟨rfl, hM5, ho5⟩
                have HM5 : Hid (MK w5 w.heap.size g' n b' c' kb W) := ⟨(hC4.only ho5 (by omega) (by omega)).mono hsz3, hM4.a.only ho5 (hM4.a.ne hM4.m).2⟩
                have HB5 : Hid (Below w.heap.size w w5) := hbw4.trans (ho5.below hbw4.size hM4.m.blt.1)
                clear hM3 hM4 hM5 ho5 hC4 hb3 hb4 hbw4 HSET
                go_wp2_with fail
                go_roundw
                case rel => exact ⟨j + 1, HJ.out.1, by first | rfl | go_num | simp, ⟨_, _, _, _, rfl, HM5.out⟩, HB5.out⟩
                case measure => simp [intOf]; have := HJ.out; omega
              · skip
                go_wp2_with fail
                go_quiet (fail)
                generalize hdr : wr.drewN _ = w3 at *
                have hM3 : MK w3 w.heap.size g n b c kb W := by rw [← hdr]; exact HM.out _
                have hb3 : Below w.heap.size w w3 := by rw [← hdr]; exact HB.out _
                have ck3 : w3.cell? ⟨ab, ao + j * 3, none⟩ = some (.int .i64 3) := by rw [← hdr]; exact ck
                clear hdr ck ca cz HM HB
                go_wp2_with fail
                refine (bclone_any w3 hM3.m).mono ?_
                rintro e w4 ⟨g', b', c', rfl, hC4, hb4⟩
                have hM4 := hM3.below hb4
                have hbw4 : Below w.heap.size w w4 := hb3.trans (hb4.mono hb3.size)
                have hlt4 := hM3.m.blt
                have hC4g := hC4.gB
                have hC4b := hC4.blt
                have hsz3 := hb3.size
                have HSET : Hid (Calls Tryd.prog 39 #[.pointer (some ⟨g, 0, none⟩), .int .i64 0] w4 fun e w' => e = .returned (.bool (!bitF W 0)) ∧ BM w' w.heap.size g n b c (putW W 0) ∧ Only b w4 w') := set_in w4 hM4.m 0 h1
                go_wp2_with fail
                refine HSET.out.mono ?_
                rintro e w5 ⟨rfl, hM5, ho5⟩
                have HM5 : Hid (MK w5 w.heap.size g' n b' c' kb W) := ⟨(hC4.only ho5 (by omega) (by omega)).mono hsz3, hM4.a.only ho5 (hM4.a.ne hM4.m).2⟩
                have HB5 : Hid (Below w.heap.size w w5) := hbw4.trans (ho5.below hbw4.size hM4.m.blt.1)
                clear hM3 hM4 hM5 ho5 hC4 hb3 hb4 hbw4 HSET
                go_wp2_with fail
                go_roundw
                case rel => exact ⟨j + 1, HJ.out.1, by first | rfl | go_num | simp, ⟨_, _, _, _, rfl, HM5.out⟩, HB5.out⟩
                case measure => simp [intOf]; have := HJ.out; omega
            · by_cases hneg : 0 ≤ aj
              · skip
                go_wp2_with fail
                go_quiet (fail)
                generalize hdr : wr.drewN _ = w3 at *
                have hM3 : MK w3 w.heap.size g n b c kb W := by rw [← hdr]; exact HM.out _
                have hb3 : Below w.heap.size w w3 := by rw [← hdr]; exact HB.out _
                have ck3 : w3.cell? ⟨ab, ao + j * 3, none⟩ = some (.int .i64 kj) := by rw [← hdr]; exact ck
                clear hdr ck ca cz HM HB
                go_wp2_with fail
                go_roundw
                case rel => exact ⟨j + 1, HJ.out.1, by first | rfl | go_num | simp, ⟨_, _, _, _, rfl, hM3⟩, hb3⟩
                case measure => simp [intOf]; have := HJ.out; omega
              · skip
                go_wp2_with fail
                go_quiet (fail)
                generalize hdr : wr.drewN _ = w3 at *
                have hM3 : MK w3 w.heap.size g n b c kb W := by rw [← hdr]; exact HM.out _
                have hb3 : Below w.heap.size w w3 := by rw [← hdr]; exact HB.out _
                have ck3 : w3.cell? ⟨ab, ao + j * 3, none⟩ = some (.int .i64 kj) := by rw [← hdr]; exact ck
                clear hdr ck ca cz HM HB
                go_wp2_with fail
                go_roundw
                case rel => exact ⟨j + 1, HJ.out.1, by first | rfl | go_num | simp, ⟨_, _, _, _, rfl, hM3⟩, hb3⟩
                case measure => simp [intOf]; have := HJ.out; omega
    · obtain rfl : j = N := by omega
      have j1 : ¬ ((j : Int) < (j : Int)) := by omega
      go_wp2_with fail
      refine bodyPost_ret (results_tmp3 rfl _ _ _) rfl ?_
      exact ⟨g, kb, rfl, ⟨b, c, W, hM⟩, hb⟩
end
end Go.Proofs.YtjbmhocmpgkmoaaDoor

namespace Go.Proofs.YtjbmhocmpgkmoaaDoor
open Go Go.RowKit
set_option linter.unusedVariables false
set_option linter.unusedSimpArgs false
theorem drew_two (w : World) (a b : Nat) : ∃ m, (w.drewN a).drewN b = w.drewN m := ⟨a + b, World.drewN_drewN ..⟩
def Drew0 (w w' : World) : Prop := ∃ m, w' = w.drewN m
/-- the first words are the same -/
def sameW (V W : Nat → Nat) (m : Nat) : Bool := decide (∀ i, i < m → V i = W i)
theorem sameW_yes {V W : Nat → Nat} {m : Nat} (h : ∀ i, i < m → V i = W i) : sameW V W m = true := by unfold sameW; simpa using h
theorem sameW_no {V W : Nat → Nat} {m j : Nat} (hj : j < m) (h : V j ≠ W j) : sameW V W m = false := by
  unfold sameW
  rw [decide_eq_false_iff_not]
  intro k
  exact h (k j hj)
section
variable {B B' g g' n n' b b' c c' : Nat} {V W : Nat → Nat}
set_option maxHeartbeats 1000000 in
theorem eqWords_any (m d d' : Nat) (hm : m ≤ 128) (w : World) (h : ∀ i, i < m → w.cell? ⟨b, i, none⟩ = some (.int .u64 ((V i : Nat) : Int))) (h' : ∀ i, i < m → w.cell? ⟨b', i, none⟩ = some (.int .u64 ((W i : Nat) : Int))) : Calls Tryd.prog 50 #[.slice (some ⟨b, 0, none⟩) m d, .slice (some ⟨b', 0, none⟩) m d'] w fun e w' => e = .returned (.bool (sameW V W m)) ∧ ∃ k, w' = w.drewN k := by
  have HV : Hid (∀ i, i < m → w.cell? ⟨b, i, none⟩ = some (.int .u64 ((V i : Nat) : Int))) := h
  have HW : Hid (∀ i, i < m → w.cell? ⟨b', i, none⟩ = some (.int .u64 ((W i : Nat) : Int))) := h'
  clear h h'
  go_enter Tryd.func50, Tryd.ntmps50
  go_wp2_with fail
  go_loopw [13] (fun t wr => ∃ j : Nat, j ≤ m ∧ t = .int .i64 (j : Int) ∧ (∀ i, i < j → V i = W i) ∧ Drew0 w wr) (fun t _ => m - (intOf t).toNat)
  case atStart => exact ⟨0, by omega, rfl, fun i hi => by omega, ⟨0, rfl⟩⟩
  case round =>
    obtain ⟨j, hj, rfl, hs, md, rfl⟩ := hrel
    by_cases hlt : j < m
    · have cV := HV.out j hlt
      have cW := HW.out j hlt
      have j0 : (0 : Int) ≤ (j : Int) := by omega
      have j1 : (j : Int) < (m : Int) := by omega
      by_cases he : V j = W j
      · have HS : Hid (∀ i, i < j + 1 → V i = W i) := fun i hi => by
          by_cases e : i = j
          · rw [e]; exact he
          · exact hs i (by omega)
        have HJ : Hid (j < m) := hlt
        rw [he] at cV
        generalize W j = x at *
        clear hs he
        go_wp2_with fail
        go_quiet (fail)
        go_wp2_with fail
        go_roundw
        case rel => exact ⟨j + 1, HJ.out, by first | rfl | go_num | simp, HS.out, ⟨_, rfl⟩⟩
        case measure => simp [intOf]; have := HJ.out; omega
      · have HN : Hid (sameW V W m = false) := sameW_no hlt he
        have he2 : ¬ (((V j : Nat) : Int) = ((W j : Nat) : Int)) := by omega
        generalize V j = x at *
        generalize W j = y at *
        go_wp2_with fail
        go_quiet (fail)
        go_wp2_with fail
        go_ret
        exact ⟨by rw [HN.out]; rfl, drew_two _ _ _⟩
    · obtain rfl : j = m := by omega
      have j1 : ¬ ((j : Int) < (j : Int)) := by omega
      have HY : Hid (sameW V W j = true) := sameW_yes hs
      go_wp2_with fail
      go_ret
      exact ⟨by rw [HY.out]; rfl, md, rfl⟩
/-- Same: the sizes and the bits -/
theorem same_bits (h : ∀ i, V i < 18446744073709551616) (h' : ∀ i, W i < 18446744073709551616) (hn : ∀ p, n ≤ p → bitF V p = false) (hn' : ∀ p, n ≤ p → bitF W p = false) : sameW V W (16 * lvN n) = decide (∀ p, p < n → bitF V p = bitF W p) := by
  unfold sameW
  apply decide_eq_decide.2
  have hge := lvN_ge (n := n)
  constructor
  · intro hs p hp
    unfold bitF
    rw [hs (p / 64) (by omega)]
  · intro hs i _
    refine words_ext h h' (fun p => ?_) i
    by_cases hp : p < n
    · exact hs p hp
    · rw [hn p (by omega), hn' p (by omega)]
set_option maxHeartbeats 2000000 in
theorem same_like (w : World) (h : BM w B g n b c V) (h' : BM w B' g' n b' c' W) : Calls Tryd.prog 11 #[.pointer (some ⟨g, 0, none⟩), .pointer (some ⟨g', 0, none⟩)] w fun e w' => e = .returned (.bool (decide (∀ p, p < n → bitF V p = bitF W p))) ∧ ∃ m, w' = w.drewN m := by
  have c0 := h.c0
  have c1 := h.c1
  have d0 := h'.c0
  have d1 := h'.c1
  have hl := lvN_le h.n2
  have HE : Hid (∀ m, Calls Tryd.prog 50 #[.slice (some ⟨b, 0, none⟩) (16 * lvN n) c, .slice (some ⟨b', 0, none⟩) (16 * lvN n) c'] (w.drewN m) fun e w' => e = .returned (.bool (decide (∀ p, p < n → bitF V p = bitF W p))) ∧ ∃ k, w' = (w.drewN m).drewN k) := fun m => by
    have := eqWords_any (16 * lvN n) c c' (by omega) (w.drewN m) (fun i hi => (h.dN m).word hi) (fun i hi => (h'.dN m).word hi)
    rw [same_bits h.lt h'.lt h.tail h'.tail] at this
    exact this
  clear h h' hl
  generalize decide (∀ p, p < n → bitF V p = bitF W p) = bb at *
  generalize 16 * lvN n = k at *
  go_enter Tryd.func11, Tryd.ntmps11
  go_wp2_with fail
  go_quiet ((go_at_call 50; exact Calls.quiet_of (HE.out _)))
  go_wp2_with fail
  go_ret
  exact ⟨rfl, _, rfl⟩
end
end Go.Proofs.YtjbmhocmpgkmoaaDoor
