/- The statement DiskQuiet, called with whatever may be done to a disk, up to 1048576 things: it returns true. -/
import Derived.Test.YtkhfggmjhpbajaaDkTwo
import Derived.Test.YtkhfggmjhpbajaaDkAwake
import Derived.Deep.DeepCutAuto
import Derived.Deep.Cut
import Derived.Handy
namespace Go.Proofs.Ytkhfggmjhpbajaa
open Go Go.RowKit
set_option linter.unusedSimpArgs false
set_option linter.unusedVariables false

theorem zero_raw (w : World) : (zeroValue 69).run Try.prog w = .ok (.agg (va 258 (rawF 0 0 fun _ => 0))) w := by
  obtain ⟨i0, hi, hz0, hz1, hz2⟩ := info_parts infoRaw
  simp [zeroValue, typeInfo, hi, hz0]
set_option maxRecDepth 100000 in
set_option maxHeartbeats 16000000 in
theorem diskQuietLaw (a0 : Option Addr) (n c0 : Nat) (hn : n ≤ 1048576) (K A : Nat → Int) (C : Nat → Nat) (w : World) (hI : IsActs w a0 n K A C) :
    Calls Try.prog 5 #[.slice a0 n c0] w fun e w' => e = .returned (.bool true) ∧ Below w.heap.size w w' := by
  have hz := zero_bk
  have hmm := @run_makeMap Try.prog
  have HI : Hid (IsActs w a0 n K A C) := hI
  have hN : Hid (∀ w : World, Calls Try.prog 7 #[.int .i64 20] w fun e w' => ∃ g q, e = .returned (.tuple #[.pointer (some ⟨g, 0, none⟩), .int .i64 0]) ∧ DiskQ w' w.heap.size g 20 (fun _ => 0) 0 0 q ∧ Quiet q 0 ∧ Below w.heap.size w w') := fun w => diskNew_any 20 (by decide) (by decide) w
  have hAw : Hid (∀ w : World, Calls Try.prog 9 #[] w fun e w' => e = .returned (.bool true) ∧ Below w.heap.size w w') := awake5_any
  clear hI
  go_enter Try.func5, Try.ntmps5
  go_wp2_with fail
  refine (hN.out _).mono ?_
  rintro e w1 ⟨gd, qd, rfl, hd1, hqd, hb1⟩
  have HD1 : Hid (DiskQ w1 w.heap.size gd 20 (fun _ => 0) 0 0 qd) := hd1
  have HQD : Hid (Quiet qd 0) := hqd
  clear hd1 hqd
  go_wp2_with fail
  refine (hN.out _).mono ?_
  rintro e w2 ⟨go, qo, rfl, ho2, hqo, hb2⟩
  have HO2 : Hid (DiskQ w2 w1.heap.size go 20 (fun _ => 0) 0 0 qo) := ho2
  have HQO : Hid (Quiet qo 0) := hqo
  have HD2 : Hid (DiskQ w2 w.heap.size gd 20 (fun _ => 0) 0 0 qd) := HD1.out.below hb2
  have HAP : Hid (∀ b, foot gd 20 qd b → ¬ foot go 20 qo b) := fun b h1 h2 => by
    have := (HD1.out.foots b h1).2
    have := (HO2.out.foots b h2).1
    omega
  have hbb : Below w.heap.size w w2 := hb1.trans (hb2.mono hb1.size)
  have HO3 : Hid (DiskQ w2 w.heap.size go 20 (fun _ => 0) 0 0 qo) := by
    obtain ⟨x1, x2, x3, x4, x5, x6, x7, x8, x9, x10, x11, x12, x13, x14⟩ := HO2.out
    have h1 := hb1.size
    exact ⟨by omega, x2, by omega, x4, by omega, x6, x7, ⟨kown_mono x8.row h1, fun j hj => kown_mono (x8.each j hj) h1, x8.apart⟩, x9, x10, kown_mono x11 h1, kown_mono x12 h1, x13, x14⟩
  clear ho2 hqo hb2 hb1 HD1 HO2
  go_wp2_with fail
  refine (hAw.out _).mono ?_
  rintro e w3 ⟨rfl, hb3⟩
  have HT3 : Hid (Two (w3.alloc (.map #[] 0)) w.heap.size gd go w3.heap.size (fun _ => 0) (fun _ => none) 0 0 0 0 qd qo) := by
    have hba : Below w2.heap.size w2 (w3.alloc (.map #[] 0)) := hb3.alloc hb3.size _
    refine ⟨HD2.out.below hba, HQD.out, HO3.out.below hba, HQO.out, HAP.out, ⟨[], fun _ => rfl, #[], 0, heap_alloc_new _ _, rfl⟩, Nat.le_trans hbb.size hb3.size, fun e => ?_, fun e => ?_⟩
    · have := (HD2.out.foots _ e).2
      have := hb3.size
      omega
    · have := (HO3.out.foots _ e).2
      have := hb3.size
      omega
  have hbw : Below w.heap.size w (w3.alloc (.map #[] 0)) := (hbb.trans (hb3.mono hbb.size)).alloc (Nat.le_trans hbb.size hb3.size) _
  clear hb3 hbb HD2 HO3 HAP HQD HQO
  go_wp2_with fail
  generalize w3.heap.size = mp at *
  go_loopw [8] (fun t wx => ∃ i : Nat, i ≤ n ∧ t = .int .i64 (i : Int) ∧ ∃ (F : Nat → Nat) (f : Int → Option Nat) (kd ld ko lo : Nat) (qd qo : QD), Two wx w.heap.size gd go mp F f kd ld ko lo qd qo ∧ Tells F f ∧ Below w.heap.size w wx ∧ (kd ≤ 2 * i ∧ ld ≤ 2 * i ∧ ko ≤ i ∧ lo ≤ i ∧ (0 < i → 0 < ld))) (fun t _ => n - (intOf t).toNat)
  case atStart => exact ⟨0, Nat.zero_le _, rfl, _, _, _, _, _, _, _, _, HT3.out, (fun _ _ _ _ => rfl), hbw, by omega, by omega, by omega, by omega, by omega⟩
  case round =>
    obtain ⟨i, hin, rfl, F, f, kd, ld, ko, lo, qd, qo, hT, hF, hb, hk1, hk2, hk3, hk4, hk5⟩ := hrel
    have HT : Hid (Two wr w.heap.size gd go mp F f kd ld ko lo qd qo) := hT
    have HF : Hid (Tells F f) := hF
    clear hT hF HT3 hbw
    by_cases hlt : i < n
    · obtain ⟨b, o, ha0, hbl, z0, z1, z2, hA⟩ := HI.out i hlt
      have HX : Hid (∀ W, Below w.heap.size w W → W.cell? ⟨b, o + i * 6, none⟩ = some (.int .i64 (K i)) ∧ W.cell? ⟨b, o + i * 6 + 1, none⟩ = some (.int .i64 (A i)) ∧ W.cell? ⟨b, o + i * 6 + 2, none⟩ = some (.int .u8 ((C i : Nat) : Int))) := fun W hW => by
        have hblk := hW.block b hbl
        refine ⟨?_, ?_, ?_⟩
        · rw [← z0]
          simp [World.cell?, hblk]
        · rw [← z1]
          simp [World.cell?, hblk]
        · rw [← z2]
          simp [World.cell?, hblk]
      obtain ⟨x0, x1, x2⟩ := HX.out wr hb
      clear z0 z1 z2
      subst ha0
      have i0 : (0 : Int) ≤ (i : Int) := by omega
      have i1 : (i : Int) < (n : Int) := by omega
      go_upto_if 51 with fail
      obtain ⟨r, hr⟩ : ∃ r, r = (A i).tmod 20 := ⟨_, rfl⟩
      have hr1 : -20 < r := by
        rw [hr]
        have := Int.tmod_lt_of_pos (-(A i)) (b := 20) (by decide)
        rw [Int.neg_tmod] at this
        omega
      have hr2 : r < 20 := by
        rw [hr]
        exact Int.tmod_lt_of_pos (A i) (by decide)
      rw [← hr]
      clear hr
      obtain ⟨at0, hat0⟩ : ∃ at0 : Nat, at0 = r.natAbs := ⟨_, rfl⟩
      have hat : at0 < 20 := by omega
      have HR : Hid (at0 = r.natAbs) := hat0
      clear hat0
      go_cut [9] (fun v wx => v = .int .i64 (at0 : Int) ∧ wx = wr)
      case first =>
        by_cases hneg : r < 0
        · go_wp2_with fail
          go_meet
          refine ⟨?_, rfl⟩
          have := HR.out
          congr 1
          omega
        · go_wp2_with fail
          go_meet
          refine ⟨?_, rfl⟩
          have := HR.out
          congr 1
          omega
      case rest =>
        obtain ⟨rfl, rfl⟩ := hcut
        clear HR hr1 hr2
        go_upto_if 59 with fail
        go_cut [9] (fun v wx => v = .int .i64 (at0 : Int) ∧ ∃ (F : Nat → Nat) (f : Int → Option Nat) (kd ld ko lo : Nat) (qd qo : QD), Two wx w.heap.size gd go mp F f kd ld ko lo qd qo ∧ Tells F f ∧ Below w.heap.size w wx ∧ (kd ≤ 2 * i + 1 ∧ ld ≤ 2 * i + 1 ∧ ko ≤ i ∧ lo ≤ i))
        case first =>
          by_cases hK : K i = 1
          · go_wp2_with fail
            refine (filled_any (C i) _).mono ?_
            rintro e w4 ⟨rfl, hb4⟩
            have HT4 : Hid (Two w4 w.heap.size gd go mp F f kd ld ko lo qd qo) := HT.out.below hb4
            have hbw4 : Below w.heap.size w w4 := hb.trans (hb4.mono hb.size)
            clear hb4
            go_wp2_with fail
            refine (write_q HT4.out.dq at0 (fun _ => C i) hat (by decide) (by omega) (by omega) w4 hbw4.size HT4.out.d).mono ?_
            rintro e w5 ⟨rfl, qd5, hd5, hq5, hm5⟩
            have HT5 : Hid (Two w5 w.heap.size gd go mp (putAt F (at0 * 256) 256 fun _ => C i) f (kd + 1) (ld + 1) ko lo qd5 qo) := HT4.out.doD hd5 hq5 hm5
            have hlow5 := HT4.out.lowD hbw4.size hm5
            have hbw5 : Below w.heap.size w w5 := hbw4.trans hlow5
            obtain ⟨_, _, x25⟩ := HX.out w5 hbw5
            obtain ⟨w6, hup, hI6, hT6⟩ := HT5.out.m.put (at0 : Int) (C i)
            have HT6 : Hid (Two w6 w.heap.size gd go mp (putAt F (at0 * 256) 256 fun _ => C i) (fun b => if b = (at0 : Int) then some (C i) else f b) (kd + 1) (ld + 1) ko lo qd5 qo) := HT5.out.put hI6 hT6
            have hbw6 : Below w.heap.size w w6 := hbw5.trans (hT6.below hbw5.size fun z hz => by
              have := HT5.out.mB
              omega)
            clear hd5 hq5 hm5 hlow5 hI6 hT6
            go_wp2_with fail
            go_meet
            exact ⟨rfl, _, _, kd + 1, ld + 1, ko, lo, qd5, qo, HT6.out, HF.out.put at0 (C i), hbw6, by omega, by omega, by omega, by omega⟩
          · go_wp2_with fail
            go_meet
            exact ⟨rfl, F, f, kd, ld, ko, lo, qd, qo, HT.out, HF.out, hb, by omega, by omega, by omega, by omega⟩
        case rest =>
          clear HT HF hb hk1 hk2 hk3 hk4 hk5 x0 x1 x2
          obtain ⟨rfl, F, f, kd, ld, ko, lo, qd, qo, hT, hF, hb, hk1, hk2, hk3, hk4⟩ := hcut
          have HT : Hid (Two wc w.heap.size gd go mp F f kd ld ko lo qd qo) := hT
          have HF : Hid (Tells F f) := hF
          clear hT hF
          go_wp2_with fail
          refine (read_q HT.out.dq at0 hat (by decide) (by omega) (by omega) wc hb.size HT.out.d).mono ?_
          rintro e w4 ⟨rfl, qd4, hd4, hq4, hm4⟩
          have HT4 : Hid (Two w4 w.heap.size gd go mp F f (kd + 1) (ld + 1) ko lo qd4 qo) := HT.out.doD hd4 hq4 hm4
          have hbw4 : Below w.heap.size w w4 := hb.trans (HT.out.lowD hb.size hm4)
          clear hd4 hq4 hm4
          obtain ⟨R1, hR1⟩ : ∃ R1 : Nat → Nat, R1 = fun j => F (at0 * 256 + j) := ⟨_, rfl⟩
          rw [← hR1]
          have heq : ∀ W, (Op.equalIn 10000 55 (.agg (va 256 (iv .u8 R1))) (.agg (va 256 (iv .u8 fun _ => (f (at0 : Int)).getD 0)))).run Try.prog W = .ok true W := by
            rw [hR1]
            exact HF.out.eq at0 hat
          have heq0 : ∀ W, (Op.equalIn 10000 55 (.agg (va 256 (iv .u8 fun _ => 0))) (.agg (va 256 (iv .u8 fun _ => 0)))).run Try.prog W = .ok true W := fun W => by
            have := eq_bk 55 Try.underlying55 (fun _ => 0) (fun _ => 0) W
            rw [decide_eq_true (fun i hi => rfl)] at this
            exact this
          clear hR1
          have c0 := Blk.new w4 55 (va 256 (iv .u8 fun _ => 0))
          have c1 := c0.set (va 256 (iv .u8 R1))
          have hbel5 : Below w4.heap.size w4 ((w4.alloc (.cells (va 256 (iv .u8 fun _ => 0)) 55)).setRow w4.heap.size (va 256 (iv .u8 R1))) := below_setRow ((Below.refl _ _).alloc (Nat.le_refl _) _) (Nat.le_refl _) _
          have HT5 : Hid (Two ((w4.alloc (.cells (va 256 (iv .u8 fun _ => 0)) 55)).setRow w4.heap.size (va 256 (iv .u8 R1))) w.heap.size gd go mp F f (kd + 1) (ld + 1) ko lo qd4 qo) := HT4.out.below hbel5
          have hbw5 : Below w.heap.size w ((w4.alloc (.cells (va 256 (iv .u8 fun _ => 0)) 55)).setRow w4.heap.size (va 256 (iv .u8 R1))) := hbw4.trans (hbel5.mono hbw4.size)
          go_wp2_with (first
            | (refine wpList_store_row (by rfl) 55 _ _ (by rfl) (w4.heap.size) (va 256 (iv .u8 R1)) (by rfl) (by rfl) 55 _ c0 (sizeBk.trans (by rw [va_size])) (by simp only [va_size]) (iv_one _ _ _) ?_; simp only [Act.put, List.setIfInBounds_toArray, List.set_cons_zero, List.set_cons_succ])
            | fail)
          have hg4 : w4.heap.size < ((w4.alloc (.cells (va 256 (iv .u8 fun _ => 0)) 55)).setRow w4.heap.size (va 256 (iv .u8 R1))).heap.size := c1.lt
          have HFt4 : Hid (∀ z, foot gd 20 qd4 z ∨ foot go 20 qo z → z < w4.heap.size) := fun z hz => by
            rcases hz with e | e
            · exact (HT4.out.d.foots z e).2
            · exact (HT4.out.o.foots z e).2
          clear hbel5 c0 HT4
          generalize (w4.alloc (.cells (va 256 (iv .u8 fun _ => 0)) 55)).setRow w4.heap.size (va 256 (iv .u8 R1)) = w5 at *
          refine (read_q HT5.out.oq at0 hat (by decide) (by omega) (by omega) w5 hbw5.size HT5.out.o).mono ?_
          rintro e w6 ⟨rfl, qo6, ho6, hq6, hm6⟩
          have HT6 : Hid (Two w6 w.heap.size gd go mp F f (kd + 1) (ld + 1) (ko + 1) (lo + 1) qd4 qo6) := HT5.out.doO ho6 hq6 hm6
          have hbw6 : Below w.heap.size w w6 := hbw5.trans (HT5.out.lowO hbw5.size hm6)
          have c2 : Blk w6 w4.heap.size 55 (va 256 (iv .u8 R1)) := (hm6.1.block _ c1.lt fun e => by
            have := HFt4.out _ (.inr e)
            omega).trans c1
          clear ho6 hq6 hm6 c1 HT5 hbw5
          have d0 := Blk.new w6 55 (va 256 (iv .u8 fun _ => 0))
          have d1 := d0.set (va 256 (iv .u8 fun _ => 0))
          have hbel7 : Below w6.heap.size w6 ((w6.alloc (.cells (va 256 (iv .u8 fun _ => 0)) 55)).setRow w6.heap.size (va 256 (iv .u8 fun _ => 0))) := below_setRow ((Below.refl _ _).alloc (Nat.le_refl _) _) (Nat.le_refl _) _
          have HT7 : Hid (Two ((w6.alloc (.cells (va 256 (iv .u8 fun _ => 0)) 55)).setRow w6.heap.size (va 256 (iv .u8 fun _ => 0))) w.heap.size gd go mp F f (kd + 1) (ld + 1) (ko + 1) (lo + 1) qd4 qo6) := HT6.out.below hbel7
          have hbw7 : Below w.heap.size w ((w6.alloc (.cells (va 256 (iv .u8 fun _ => 0)) 55)).setRow w6.heap.size (va 256 (iv .u8 fun _ => 0))) := hbw6.trans (hbel7.mono hbw6.size)
          have c3 := c2.below hbel7 c2.lt
          go_wp2_with (first
            | (refine wpList_store_row (by rfl) 55 _ _ (by rfl) (w6.heap.size) (va 256 (iv .u8 (fun _ => 0))) (by rfl) (by rfl) 55 _ d0 (sizeBk.trans (by rw [va_size])) (by simp only [va_size]) (iv_one _ _ _) ?_; simp only [Act.put, List.setIfInBounds_toArray, List.set_cons_zero, List.set_cons_succ])
            | fail)
          clear d0 c2 hbel7 HT6 hbw6
          generalize (w6.alloc (.cells (va 256 (iv .u8 fun _ => 0)) 55)).setRow w6.heap.size (va 256 (iv .u8 fun _ => 0)) = w7 at *
          have hlk := (HT7.out.below (Below.refl _ _).drew).m.look (at0 : Int)
          refine wp_region_partsI [] [([0], 1, false), ([2, 3], 4, false), ([5, 6, 8, 9], 7, true), ([], 10, false), ([], 11, false), ([], 12, false), ([13, 14], 15, true), ([], 16, false), ([], 17, false)] [18] [] (w7.heap.size) (by kernel_rfl) (by kernel_rfl) (fun _ hx => nomatch hx) (partsI_force ?_)
          simp only [List.cons_append, List.nil_append, List.append_nil, List.filterMap_cons, List.filterMap_nil, List.getElem?_toArray, List.getElem?_cons_zero, List.getElem?_cons_succ]
          have hS : Below (w7.heap.size) w7 w7.drew := (Below.refl _ _).drew
          go_wp2_with fail
          refine ⟨rfl, hS, partsI_force ?_⟩
          simp only [List.cons_append, List.nil_append, List.append_nil, List.filterMap_cons, List.filterMap_nil, List.getElem?_toArray, List.getElem?_cons_zero, List.getElem?_cons_succ]
          go_wp2_with fail
          refine ⟨rfl, hS, partsI_yield ?_⟩
          simp only [List.cons_append, List.nil_append, List.append_nil, List.filterMap_cons, List.filterMap_nil, List.getElem?_toArray, List.getElem?_cons_zero, List.getElem?_cons_succ]
          go_wp2_with fail
          refine ⟨rfl, _, .agg (va 256 (iv .u8 R1)), rfl, kyields_load (by rfl) 55 _ (by rfl) (w4.heap.size) 256 (iv .u8 R1) (by rfl) _ 55 (fun W hW => c3.below hW c3.lt) Try.underlying55 rfl sizeBk, partsI_force ?_⟩
          simp only [Act.put, List.setIfInBounds_toArray, List.set_cons_zero, List.set_cons_succ]
          simp only [List.cons_append, List.nil_append, List.append_nil, List.filterMap_cons, List.filterMap_nil, List.getElem?_toArray, List.getElem?_cons_zero, List.getElem?_cons_succ]
          go_wp2_with fail
          refine ⟨rfl, hS, partsI_force ?_⟩
          simp only [List.cons_append, List.nil_append, List.append_nil, List.filterMap_cons, List.filterMap_nil, List.getElem?_toArray, List.getElem?_cons_zero, List.getElem?_cons_succ]
          go_wp2_with fail
          refine (filled_any ((f (at0 : Int)).getD 0) _).mono ?_
          rintro e w8 ⟨rfl, hb8⟩
          have hS : Below (w7.heap.size) w7 w8 := hS.trans (hb8.mono hS.size)
          go_wp2_with fail
          refine ⟨rfl, hS, partsI_force ?_⟩
          simp only [List.cons_append, List.nil_append, List.append_nil, List.filterMap_cons, List.filterMap_nil, List.getElem?_toArray, List.getElem?_cons_zero, List.getElem?_cons_succ]
          go_wp2_with fail
          refine ⟨rfl, hS, partsI_yield ?_⟩
          simp only [List.cons_append, List.nil_append, List.append_nil, List.filterMap_cons, List.filterMap_nil, List.getElem?_toArray, List.getElem?_cons_zero, List.getElem?_cons_succ]
          go_wp2_with fail
          refine ⟨rfl, _, .agg (va 256 (iv .u8 (fun _ => 0))), rfl, kyields_load (by rfl) 55 _ (by rfl) (w6.heap.size) 256 (iv .u8 (fun _ => 0)) (by rfl) _ 55 (fun W hW => d1.below hW d1.lt) Try.underlying55 rfl sizeBk, partsI_force ?_⟩
          simp only [Act.put, List.setIfInBounds_toArray, List.set_cons_zero, List.set_cons_succ]
          simp only [List.cons_append, List.nil_append, List.append_nil, List.filterMap_cons, List.filterMap_nil, List.getElem?_toArray, List.getElem?_cons_zero, List.getElem?_cons_succ]
          go_wp2_with fail
          refine ⟨rfl, hS, partsI_force ?_⟩
          simp only [List.cons_append, List.nil_append, List.append_nil, List.filterMap_cons, List.filterMap_nil, List.getElem?_toArray, List.getElem?_cons_zero, List.getElem?_cons_succ]
          go_wp2_with fail
          refine ⟨rfl, hS, partsI_last ?_⟩
          simp only [List.cons_append, List.nil_append, List.append_nil, List.filterMap_cons, List.filterMap_nil, List.getElem?_toArray, List.getElem?_cons_zero, List.getElem?_cons_succ]
          go_wp2_with fail
          refine ⟨rfl, ?_⟩
          go_wp2_with fail
          have HT8 : Hid (Two w8 w.heap.size gd go mp F f (kd + 1) (ld + 1) (ko + 1) (lo + 1) qd4 qo6) := HT7.out.below hS
          have hbw8 : Below w.heap.size w w8 := hbw7.trans (hS.mono hbw7.size)
          clear HT7 hbw7 hS hb8 hlk c3 d1 heq heq0 hg4 HFt4
          refine (image_q (by decide) w8 HT8.out.d).mono ?_
          rintro e w9 ⟨xa, xc, xs9, rfl, hx9, hb9⟩
          have HT9 : Hid (Two w9 w.heap.size gd go mp F f (kd + 1) (ld + 1) (ko + 1) (lo + 1) qd4 qo6) := HT8.out.below hb9
          go_wp2_with fail
          refine (log_q (by omega) (by omega) HT9.out.dq.ones w9 HT9.out.d).mono ?_
          rintro e w10 ⟨ya, yc, ys10, rfl, hy10, hb10⟩
          have hx10 := kown_below hx9 hb10
          have hb810 : Below w8.heap.size w8 w10 := hb9.trans (hb10.mono hb9.size)
          obtain ⟨gx, cx, hxe, hgx, hgxl⟩ := kown_form hx10 (by decide)
          injection hxe with hxe1 _ hxe2
          subst hxe1 hxe2
          obtain ⟨gy, cy, hye, hgy, hgyl⟩ := kown_form hy10 (Nat.succ_pos _)
          injection hye with hye1 _ hye2
          subst hye1 hye2
          have hgy8 : w8.heap.size ≤ gy := Nat.le_trans hb9.size hgy
          have l0 : ¬ (((ld + 1 : Nat) : Int) = 0) := by omega
          have l1 : (0 : Int) < ((ld + 1 : Nat) : Int) := by omega
          have j0 : (0 : Int) ≤ (at0 : Int) := by omega
          have j1 : (at0 : Int) < 20 := by omega
          clear HT9 hx9 hb9 hb10
          go_wp2_with fail
          refine (filled_any 99 _).mono ?_
          rintro e w11 ⟨rfl, hb11⟩
          have hx11 := kown_below hx10 hb11
          have hy11 := kown_below hy10 hb11
          have hb811 : Below w8.heap.size w8 w11 := hb810.trans (hb11.mono hb810.size)
          have hvs := va_size 256 (iv .u8 fun _ => 99)
          have hvr := va_size 258 (rawF 0 0 fun _ => 0)
          have ht1 : w11.there gx (at0 * 256) (va 256 (iv .u8 fun _ => 99)).size := by
            rw [hvs]
            exact (own_there hx11 (at0 * 256) 256 (by omega)).1
          have ht2 : (w11.setCells gx (at0 * 256) (va 256 (iv .u8 fun _ => 99)).toList).there gy 0 (va 258 (rawF 0 0 fun _ => 0)).size := by
            rw [hvr]
            exact World.there_setCells (own_there hy11 0 258 (by omega)).1 _ _ _
          have hst1 := own_store (P := Try.prog) ht1 (kva_mem_one _ _)
          have hst2 := own_store (P := Try.prog) ht2 (raw_one _ _ _)
          have HB13 : Hid (Below w8.heap.size w8 ((w11.setCells gx (at0 * 256) (va 256 (iv .u8 fun _ => 99)).toList).setCells gy 0 (va 258 (rawF 0 0 fun _ => 0)).toList)) := below_setCells hgy8 _ _ _ (below_setCells hgx _ _ _ hb811)
          clear hx10 hy10 hb810 hb11 hx11 hy11 hb811 ht1 ht2
          have hzr := zero_raw
          go_wp2_with fail
          have HT13 := HT8.out.below HB13.out
          have hbw13 : Below w.heap.size w ((w11.setCells gx (at0 * 256) (va 256 (iv .u8 fun _ => 99)).toList).setCells gy 0 (va 258 (rawF 0 0 fun _ => 0)).toList) := hbw8.trans (HB13.out.mono hbw8.size)
          refine ⟨⟨i + 1, by omega, by simp, F, f, kd + 1, ld + 1, ko + 1, lo + 1, qd4, qo6, HT13, HF.out, hbw13, by omega, by omega, by omega, by omega, by omega⟩, ?_⟩
          simp [intOf]
          omega
    · obtain rfl : i = n := by omega
      go_wp2_with fail
      go_loopw [16] (fun t wx => ∃ a : Nat, a ≤ 20 ∧ t = .int .i64 (a : Int) ∧ ∃ (F : Nat → Nat) (f : Int → Option Nat) (kd ld ko lo : Nat) (qd qo : QD), Two wx w.heap.size gd go mp F f kd ld ko lo qd qo ∧ Tells F f ∧ Below w.heap.size w wx ∧ (kd ≤ 2 * i + a ∧ ld ≤ 2 * i + a)) (fun t _ => 20 - (intOf t).toNat)
      case atStart => exact ⟨0, by decide, rfl, F, f, kd, ld, ko, lo, qd, qo, HT.out, HF.out, hb, by omega, by omega⟩
      case round =>
        clear HT HF hb hk1 hk2 hk3 hk4 hk5
        obtain ⟨at0, hat20, rfl, F, f, kd, ld, ko, lo, qd, qo, hT, hF, hb, hk1, hk2⟩ := hrel
        have HT : Hid (Two wr w.heap.size gd go mp F f kd ld ko lo qd qo) := hT
        have HF : Hid (Tells F f) := hF
        clear hT hF
        by_cases hat : at0 < 20
        · have j0 : (0 : Int) ≤ (at0 : Int) := by omega
          have j1 : (at0 : Int) < 20 := by omega
          go_wp2_with fail
          refine (read_q HT.out.dq at0 hat (by decide) (by omega) (by omega) wr hb.size HT.out.d).mono ?_
          rintro e w4 ⟨rfl, qd4, hd4, hq4, hm4⟩
          have HT4 : Hid (Two w4 w.heap.size gd go mp F f (kd + 1) (ld + 1) ko lo qd4 qo) := HT.out.doD hd4 hq4 hm4
          have hbw4 : Below w.heap.size w w4 := hb.trans (HT.out.lowD hb.size hm4)
          clear hd4 hq4 hm4
          obtain ⟨R1, hR1⟩ : ∃ R1 : Nat → Nat, R1 = fun j => F (at0 * 256 + j) := ⟨_, rfl⟩
          rw [← hR1]
          have heq : ∀ W, (Op.equalIn 10000 55 (.agg (va 256 (iv .u8 R1))) (.agg (va 256 (iv .u8 fun _ => (f (at0 : Int)).getD 0)))).run Try.prog W = .ok true W := by
            rw [hR1]
            exact HF.out.eq at0 hat
          clear hR1
          have c0 := Blk.new w4 55 (va 256 (iv .u8 fun _ => 0))
          have c1 := c0.set (va 256 (iv .u8 R1))
          have hbel5 : Below w4.heap.size w4 ((w4.alloc (.cells (va 256 (iv .u8 fun _ => 0)) 55)).setRow w4.heap.size (va 256 (iv .u8 R1))) := below_setRow ((Below.refl _ _).alloc (Nat.le_refl _) _) (Nat.le_refl _) _
          have HT5 : Hid (Two ((w4.alloc (.cells (va 256 (iv .u8 fun _ => 0)) 55)).setRow w4.heap.size (va 256 (iv .u8 R1))) w.heap.size gd go mp F f (kd + 1) (ld + 1) ko lo qd4 qo) := HT4.out.below hbel5
          have hbw5 : Below w.heap.size w ((w4.alloc (.cells (va 256 (iv .u8 fun _ => 0)) 55)).setRow w4.heap.size (va 256 (iv .u8 R1))) := hbw4.trans (hbel5.mono hbw4.size)
          go_wp2_with (first
            | (refine wpList_store_row (by rfl) 55 _ _ (by rfl) (w4.heap.size) (va 256 (iv .u8 R1)) (by rfl) (by rfl) 55 _ c0 (sizeBk.trans (by rw [va_size])) (by simp only [va_size]) (iv_one _ _ _) ?_; simp only [Act.put, List.setIfInBounds_toArray, List.set_cons_zero, List.set_cons_succ])
            | fail)
          clear hbel5 c0 HT4
          generalize (w4.alloc (.cells (va 256 (iv .u8 fun _ => 0)) 55)).setRow w4.heap.size (va 256 (iv .u8 R1)) = w5 at *
          have hlk := (HT5.out.below (Below.refl _ _).drew).m.look (at0 : Int)
          refine wp_region_partsI [] [([0], 1, false), ([2, 4, 5], 3, true), ([], 6, false), ([], 7, false), ([], 8, false)] [9] [] (w5.heap.size) (by kernel_rfl) (by kernel_rfl) (fun _ hx => nomatch hx) (partsI_force ?_)
          simp only [List.cons_append, List.nil_append, List.append_nil, List.filterMap_cons, List.filterMap_nil, List.getElem?_toArray, List.getElem?_cons_zero, List.getElem?_cons_succ]
          have hS : Below (w5.heap.size) w5 w5.drew := (Below.refl _ _).drew
          go_wp2_with fail
          refine ⟨rfl, hS, partsI_yield ?_⟩
          simp only [List.cons_append, List.nil_append, List.append_nil, List.filterMap_cons, List.filterMap_nil, List.getElem?_toArray, List.getElem?_cons_zero, List.getElem?_cons_succ]
          go_wp2_with fail
          refine ⟨rfl, _, .agg (va 256 (iv .u8 R1)), rfl, kyields_load (by rfl) 55 _ (by rfl) (w4.heap.size) 256 (iv .u8 R1) (by rfl) _ 55 (fun W hW => c1.below hW c1.lt) Try.underlying55 rfl sizeBk, partsI_force ?_⟩
          simp only [Act.put, List.setIfInBounds_toArray, List.set_cons_zero, List.set_cons_succ]
          simp only [List.cons_append, List.nil_append, List.append_nil, List.filterMap_cons, List.filterMap_nil, List.getElem?_toArray, List.getElem?_cons_zero, List.getElem?_cons_succ]
          go_wp2_with fail
          refine ⟨rfl, hS, partsI_force ?_⟩
          simp only [List.cons_append, List.nil_append, List.append_nil, List.filterMap_cons, List.filterMap_nil, List.getElem?_toArray, List.getElem?_cons_zero, List.getElem?_cons_succ]
          go_wp2_with fail
          refine (filled_any ((f (at0 : Int)).getD 0) _).mono ?_
          rintro e w8 ⟨rfl, hb8⟩
          have hS : Below (w5.heap.size) w5 w8 := hS.trans (hb8.mono hS.size)
          go_wp2_with fail
          refine ⟨rfl, hS, partsI_force ?_⟩
          simp only [List.cons_append, List.nil_append, List.append_nil, List.filterMap_cons, List.filterMap_nil, List.getElem?_toArray, List.getElem?_cons_zero, List.getElem?_cons_succ]
          go_wp2_with fail
          refine ⟨rfl, hS, partsI_last ?_⟩
          simp only [List.cons_append, List.nil_append, List.append_nil, List.filterMap_cons, List.filterMap_nil, List.getElem?_toArray, List.getElem?_cons_zero, List.getElem?_cons_succ]
          go_wp2_with fail
          refine ⟨rfl, ?_⟩
          go_wp2_with fail
          have HT8 : Two w8 w.heap.size gd go mp F f (kd + 1) (ld + 1) ko lo qd4 qo := HT5.out.below hS
          have hbw8 : Below w.heap.size w w8 := hbw5.trans (hS.mono hbw5.size)
          refine ⟨⟨at0 + 1, by omega, by simp, F, f, kd + 1, ld + 1, ko, lo, qd4, qo, HT8, HF.out, hbw8, by omega, by omega⟩, ?_⟩
          simp [intOf]
          omega
        · obtain rfl : at0 = 20 := by omega
          go_wp2_with fail
          go_ret
          exact ⟨rfl, hb⟩
end Go.Proofs.Ytkhfggmjhpbajaa
