/- The statement FileMoves: its walk. -/
import Derived.Test.YtcmihdjbeihjbaaGreatHFlMove17
import Derived.Test.YtcmihdjbeihjbaaGreatHFlPI
import Derived.Test.YtcmihdjbeihjbaaGreatHFlDone
import Derived.Test.YtcmihdjbeihjbaaGreatHFlText
import Derived.Handy

namespace Go.Proofs.YtcmihdjbeihjbaaGreat
open Go Go.RowKit
set_option linter.unusedSimpArgs false
set_option linter.unusedVariables false
/-- what the loop holds -/
structure MZ (w W : World) (x mf ml mc : Nat) (cp : Option Addr) (g8 g9 : Nat) (sm : ByteArray) (tm : Nat) (sk : ByteArray) (tk : Nat) : Prop where
  pi : PI w W x mf ml mc cp sm tm sk tk
  b8 : Blk W g8 32 (mdC sm tm)
  b9 : Blk W g9 32 (mdC sk tk)
  n8 : g8 ≠ x ∧ g8 ≠ mf ∧ g8 ≠ ml ∧ g8 ≠ mc
  n9 : g9 ≠ x ∧ g9 ≠ mf ∧ g9 ≠ ml ∧ g9 ≠ mc
  ne : g8 ≠ g9
  l8 : w.heap.size ≤ g8
  l9 : w.heap.size ≤ g9
theorem MZ.below {w W W' : World} {x mf ml mc : Nat} {cp : Option Addr} {g8 g9 : Nat} {sm sk : ByteArray} {tm tk : Nat} (h : MZ w W x mf ml mc cp g8 g9 sm tm sk tk) (hb : Below W.heap.size W W') : MZ w W' x mf ml mc cp g8 g9 sm tm sk tk := ⟨h.pi.below hb, h.b8.below hb h.b8.lt, h.b9.below hb h.b9.lt, h.n8, h.n9, h.ne, h.l8, h.l9⟩
/-- both models laid anew behind a move -/
theorem MZ.next {w W W' : World} {x mf ml mc : Nat} {cp : Option Addr} {g8 g9 : Nat} {sm sk s1 s2 : ByteArray} {tm tk t1 t2 : Nat} (h : MZ w W x mf ml mc cp g8 g9 sm tm sk tk) (hP : PI w W' x mf ml mc cp s1 t1 s2 t2) (hT : Turns (fun z => z = ml ∨ z = mf) W W') : MZ w ((W'.setRow g8 (mdC s1 t1)).setRow g9 (mdC s2 t2)) x mf ml mc cp g8 g9 s1 t1 s2 t2 := by
  have h8 := h.n8
  have h9 := h.n9
  have b8 := fl_blk hT h.b8 (by omega)
  have b9 := fl_blk hT h.b9 (by omega)
  exact ⟨(hP.row g8 _ h.l8 h8).row g9 _ h.l9 h9, (b8.set _).other _ h.ne, (b9.other _ (Ne.symm h.ne)).set _, h8, h9, h.ne, h.l8, h.l9⟩
def mvF (x : Mv) : Nat → Value := fun i => if i = 0 then .int .i64 x.kd else if i = 1 then .int .i64 x.a else if i = 2 then .int .i64 x.m else if i = 3 then .int .i64 x.p else if i = 4 then .string x.s else .int .u64 ((x.t : Nat) : Int)
theorem mv_rng {W : World} {b o : Nat} {x : Mv} (h : W.rangeAt b o x.cs) : W.rangeAt b o ((List.range 6).map (mvF x)) := h
theorem zero_mv (w : World) : (zeroValue 35).run Tryz.prog w = .ok (.agg (mvC ⟨0, 0, 0, 0, ⟨#[]⟩, 0⟩)) w := fl_zero (by kernel_rfl) w
theorem wr_all (s : ByteArray) : strN (wrF (tbyte ⟨#[]⟩) 0 s 0) (wzN 0 0 s.size) = s := by
  by_cases h : s.size = 0
  · have e := empty_text h
    subst e
    exact wr_none ⟨#[]⟩ ⟨#[]⟩ 0 rfl
  · have ez : wzN 0 0 s.size = s.size := by unfold wzN; rw [if_neg h]; omega
    rw [ez]
    refine text_ext (strN_size _ _) fun j hj => ?_
    rw [strN_size] at hj
    rw [strN_at _ _ _ hj (wrF_lt (fun p hp => absurd hp (by omega)) _ _ _)]
    unfold wrF
    rw [if_pos (by omega), Nat.sub_zero]
theorem PI.writeM {w V : World} {x mf ml mc : Nat} {cp : Option Addr} {sk : ByteArray} {tk : Nat} (h : PI w V x mf ml mc cp ⟨#[]⟩ 1 sk tk) (s : ByteArray) (hs : s.size ≤ 1048576) : Calls Tryz.prog 7 #[.pointer (some ⟨x, 0, none⟩), .int .i64 2, .int .i64 0, .string s, .int .u64 1] V fun e w' => e = .returned (.tuple #[.int .i64 (s.size : Int), .int .i64 0]) ∧ PI w w' x mf ml mc cp s 1 sk tk ∧ Turns (fun z => z = ml ∨ z = mf) V w' := by
  obtain ⟨H, D, hI, h2, h3⟩ := h.im
  have hB : BS w V x mf ml mc cp 3 H D 2 (⟨#[]⟩ : ByteArray).size 1 (tbyte ⟨#[]⟩) := ⟨⟨H, D, hI, h2, fun _ _ => ⟨rfl, rfl⟩⟩, h.bel, h.gl, h.gf, fun p _ => tbyte_lt _ _⟩
  refine (hB.writeT 0 s (by omega) 1).mono ?_
  rintro e w' ⟨rfl, hB', hT⟩
  have hB2 := hB'.text
  have e1 : (if s.size = 0 then 1 else 1) = 1 := by split <;> rfl
  rw [e1] at hB2
  have e2 : strN (wrF (tbyte ⟨#[]⟩) (⟨#[]⟩ : ByteArray).size s 0) (wzN (⟨#[]⟩ : ByteArray).size 0 s.size) = s := wr_all s
  rw [e2] at hB2
  obtain ⟨H', D', i1, i2, i3⟩ := hB2.now
  refine ⟨by rw [Nat.zero_add], ⟨⟨H', D', i1, i2, h3.same (i3 3 (by decide)).1 (i3 3 (by decide)).2⟩, hB2.bel, h.gl, h.gf⟩, hT⟩
set_option maxRecDepth 100000 in
set_option maxHeartbeats 32000000 in
theorem fileMovesLaw (s : ByteArray) (hs : s.size ≤ 140737488355328) (al : Option Addr) (n c : Nat) (A : Nat → Mv) (hn : n * 56 ≤ 140737488351232) (hok : ∀ i, i < n → (A i).ok) (w : World) (hA : IsM16 w al n A) : Calls Tryz.prog 3 #[.string s, .slice al n c] w fun e w' => e = .returned (.bool true) ∧ Below w.heap.size w w' := by
  have HB := begun_any w
  have HAW : Hid (∀ w : World, Calls Tryz.prog 5 #[] w fun e w' => e = .returned (.bool true) ∧ Below w.heap.size w w') := awake16_any
  have hzv := zero_mv
  have hzm : ∀ w, (zeroValue 32).run Tryz.prog w = .ok (.agg #[.string ⟨#[]⟩, .int .u64 0]) w := zero_md
  have HA : Hid (IsM16 w al n A ∧ (∀ i, i < n → (A i).ok) ∧ n * 56 ≤ 140737488351232) := ⟨hA, hok, hn⟩
  have hn2 : n ≤ 140737488351232 := by omega
  obtain ⟨S, hS⟩ : ∃ S : Nat, s.size = S := ⟨_, rfl⟩
  have hS2 : S ≤ 140737488355328 := by omega
  clear hA hok hn
  go_enter Tryz.func3, Tryz.ntmps3
  go_wp2_with fail
  refine HB.mono ?_
  rintro e w1 ⟨x, mf, ml, mc, cp, rfl, hBeg⟩
  have HX : Hid (w.heap.size ≤ x ∧ w.heap.size ≤ mf ∧ w.heap.size ≤ ml ∧ w.heap.size ≤ mc) := hBeg.1
  have h1 := hBeg.2.1
  have hb1 := hBeg.2.2
  have HA1 := HAW.out w1
  clear HB hBeg
  go_wp2_with fail
  refine HA1.mono ?_
  rintro e w2 ⟨rfl, hb2⟩
  have h2 := h1.below hb2
  have HB2 : Hid (Below w.heap.size w w2) := hb1.trans (hb2.mono hb1.size)
  clear HA1 h1 hb1 hb2
  by_cases c1 : 20000 < S
  · have k1 : (20000 : Int) < (S : Int) := by omega
    have HA2 := HAW.out w2
    clear h2 c1
    go_wp2_with fail
    refine HA2.mono ?_
    rintro e w4 ⟨rfl, hb4⟩
    have HE4 : Hid (Below w.heap.size w w4) := HB2.out.trans (hb4.mono HB2.out.size)
    clear HA2 hb4
    go_wp2_with fail
    go_ret
    exact ⟨rfl, HE4.out⟩
  · have k1 : ¬ ((20000 : Int) < (S : Int)) := by omega
    by_cases c2 : 40 < n
    · have k2 : (40 : Int) < (n : Int) := by omega
      have HA2 := HAW.out w2
      clear h2 c1 c2
      go_wp2_with fail
      refine HA2.mono ?_
      rintro e w4 ⟨rfl, hb4⟩
      have HE4 : Hid (Below w.heap.size w w4) := HB2.out.trans (hb4.mono HB2.out.size)
      clear HA2 hb4
      go_wp2_with fail
      go_ret
      exact ⟨rfl, HE4.out⟩
    · have k2 : ¬ ((40 : Int) < (n : Int)) := by omega
      have HM := h2.make 3 (by decide) (by decide) rfl (fun m g1 g2 => by
        have : m = 1 ∨ m = 2 := by omega
        rcases this with rfl | rfl <;> decide) 1 (.inl rfl) 1 (by decide)
      have HSS : Hid (s.size ≤ 1048576 ∧ n ≤ 40) := ⟨by omega, by omega⟩
      clear h2 c1 c2
      go_wp2_with fail
      refine HM.mono ?_
      rintro e w4 ⟨rfl, hI4, ht4⟩
      have hb4 : Below w.heap.size w w4 := by
        have := HX.out
        exact HB2.out.trans (ht4.below HB2.out.size (fun b hb => by rcases hb with rfl | rfl; exact this.1; exact this.2.1))
      have hP4 : PI w w4 x mf ml mc cp ⟨#[]⟩ 1 ⟨#[]⟩ 1 := ⟨⟨_, _, hI4, ⟨by decide, by decide, rfl, rfl, rfl, rfl, rfl, rfl, by decide, fun q i hi => by rw [if_neg (by show ¬ _ < 0; omega)]; rfl⟩, ⟨by decide, by decide, rfl, rfl, rfl, rfl, rfl, rfl, by decide, fun q i hi => by rw [if_neg (by show ¬ _ < 0; omega)]; rfl⟩⟩, hb4, HX.out.2.2.1, HX.out.2.1⟩
      have u8 : Blk ((w4.alloc (.cells #[.string ⟨#[]⟩, .int .u64 0] 32)).alloc (.cells #[.string ⟨#[]⟩, .int .u64 0] 32)) w4.heap.size 32 (mdC ⟨#[]⟩ 0) := (Blk.new _ _ _).alloc _
      have u9 : Blk ((w4.alloc (.cells #[.string ⟨#[]⟩, .int .u64 0] 32)).alloc (.cells #[.string ⟨#[]⟩, .int .u64 0] 32)) (w4.heap.size + 1) 32 (mdC ⟨#[]⟩ 0) := Blk.new1 _ _ _ _
      have v9 : Blk (((w4.alloc (.cells #[.string ⟨#[]⟩, .int .u64 0] 32)).alloc (.cells #[.string ⟨#[]⟩, .int .u64 0] 32)).setRow w4.heap.size (mdC s 1)) (w4.heap.size + 1) 32 (mdC ⟨#[]⟩ 0) := u9.other _ (by omega)
      have hb5 : Below w4.heap.size w4 ((((w4.alloc (.cells #[.string ⟨#[]⟩, .int .u64 0] 32)).alloc (.cells #[.string ⟨#[]⟩, .int .u64 0] 32)).setRow w4.heap.size (mdC s 1)).setRow (w4.heap.size + 1) (mdC ⟨#[]⟩ 1)) := below_setRow (below_setRow (below_new2 _ _ _) (Nat.le_refl _) _) (Nat.le_succ _) _
      have P5 : Hid (PI w ((((w4.alloc (.cells #[.string ⟨#[]⟩, .int .u64 0] 32)).alloc (.cells #[.string ⟨#[]⟩, .int .u64 0] 32)).setRow w4.heap.size (mdC s 1)).setRow (w4.heap.size + 1) (mdC ⟨#[]⟩ 1)) x mf ml mc cp ⟨#[]⟩ 1 ⟨#[]⟩ 1) := hP4.below hb5
      have B8 : Hid (Blk ((((w4.alloc (.cells #[.string ⟨#[]⟩, .int .u64 0] 32)).alloc (.cells #[.string ⟨#[]⟩, .int .u64 0] 32)).setRow w4.heap.size (mdC s 1)).setRow (w4.heap.size + 1) (mdC ⟨#[]⟩ 1)) w4.heap.size 32 (mdC s 1)) := (u8.set _).other _ (by omega)
      have B9 : Hid (Blk ((((w4.alloc (.cells #[.string ⟨#[]⟩, .int .u64 0] 32)).alloc (.cells #[.string ⟨#[]⟩, .int .u64 0] 32)).setRow w4.heap.size (mdC s 1)).setRow (w4.heap.size + 1) (mdC ⟨#[]⟩ 1)) (w4.heap.size + 1) 32 (mdC ⟨#[]⟩ 1)) := v9.set _
      have HL : Hid ((x < w4.heap.size ∧ mf < w4.heap.size ∧ ml < w4.heap.size ∧ mc < w4.heap.size) ∧ w.heap.size ≤ w4.heap.size) := ⟨hP4.lts, hb4.size⟩
      clear HM hI4 ht4 hb4 hP4 u9 hb5
      have hbs := built_md s 1
      have hbe : Tryz.prog.built 32 [(0, .string ⟨#[]⟩), (1, .int .u64 1)] = some (mdC ⟨#[]⟩ 1) := built_md ⟨#[]⟩ 1
      go_wp2_with (first
        | (refine mv_build_at (by rfl) 32 _ (by rfl) [(0, .string s), (1, .int .u64 1)] (by rfl) (mdC s 1) hbs ?_; simp only [Act.put, List.setIfInBounds_toArray, List.set_cons_zero, List.set_cons_succ])
        | (refine mv_build_at (by rfl) 32 _ (by rfl) [(0, .string ⟨#[]⟩), (1, .int .u64 1)] (by rfl) (mdC ⟨#[]⟩ 1) hbe ?_; simp only [Act.put, List.setIfInBounds_toArray, List.set_cons_zero, List.set_cons_succ])
        | (refine wpList_store_row (by rfl) 32 _ _ (by rfl) (w4.heap.size) (mdC s 1) (by rfl) (by rfl) 32 (_) (by exact u8) (sizeMd.trans (by rfl)) (by rfl) (md_all _ _) ?_; simp only [Act.put, List.setIfInBounds_toArray, List.set_cons_zero, List.set_cons_succ]) | (refine wpList_store_row (by rfl) 32 _ _ (by rfl) (w4.heap.size + 1) (mdC ⟨#[]⟩ 1) (by rfl) (by rfl) 32 (_) (by exact v9) (sizeMd.trans (by rfl)) (by rfl) (md_all _ _) ?_; simp only [Act.put, List.setIfInBounds_toArray, List.set_cons_zero, List.set_cons_succ]) | fail)
      obtain ⟨g8, hg8⟩ : ∃ g8, w4.heap.size = g8 := ⟨_, rfl⟩
      obtain ⟨g9, hg9⟩ : ∃ g9, g8 + 1 = g9 := ⟨_, rfl⟩
      have HGG : Hid (g8 < g9) := by show g8 < g9; omega
      rw [hg8, hg9] at P5 B8 B9 ⊢
      rw [hg8] at HL
      generalize (((w4.alloc (.cells #[.string ⟨#[]⟩, .int .u64 0] 32)).alloc (.cells #[.string ⟨#[]⟩, .int .u64 0] 32)).setRow g8 (mdC s 1)).setRow g9 (mdC ⟨#[]⟩ 1) = w5 at *
      clear u8 v9 hg8 hg9 hbs hbe
      refine (P5.out.writeM s HSS.out.1).mono ?_
      rintro e w6 ⟨rfl, hP6, hT6⟩
      have HZ6 : Hid (MZ w w6 x mf ml mc cp g8 g9 s 1 ⟨#[]⟩ 1) := by
        have hl := HL.out
        have hg := HGG.out
        exact ⟨hP6, fl_blk hT6 B8.out (by omega), fl_blk hT6 B9.out (by omega), by omega, by omega, by omega, by omega, by omega⟩
      clear P5 B8 B9 hP6 hT6 HL HGG
      go_wp2_with fail
      go_loopw [62] (fun v wr => Hid (∃ (i : Nat) (sm : ByteArray) (tm : Nat) (sk : ByteArray) (tk : Nat), i ≤ n ∧ v = .int .i64 (i : Int) ∧ MZ w wr x mf ml mc cp g8 g9 sm tm sk tk)) (fun v _ => n - (intOf v).toNat)
      case atStart => exact ⟨0, _, _, _, _, Nat.zero_le _, rfl, HZ6.out⟩
      case round =>
        obtain ⟨i, sm, tm, sk, tk, hi, rfl, hZ⟩ := Hid.out hrel
        clear hrel HZ6
        by_cases hlt : i < n
        · have i0 : (0 : Int) ≤ (i : Int) := by omega
          have i1 : (i : Int) < (n : Int) := by omega
          obtain ⟨b, o, rfl, hbl, hr⟩ := HA.out.1 i hlt
          have hoX := HA.out.2.1 i hlt
          obtain ⟨X, hX⟩ : ∃ X, A i = X := ⟨_, rfl⟩
          rw [hX] at hr hoX
          have HRG : Hid (wr.rangeAt b (o + i * 6) ((List.range 6).map (mvF X))) := fun j v hv => by
            rw [← mv_rng hr j v hv]
            simp [World.cell?, hZ.pi.bel.block b hbl]
          have p1 := Blk.new wr 35 (mvC ⟨0, 0, 0, 0, ⟨#[]⟩, 0⟩)
          have bV0 := p1.set (mvC X)
          have hbA : Below wr.heap.size wr ((wr.alloc (.cells (mvC ⟨0, 0, 0, 0, ⟨#[]⟩, 0⟩) 35)).setRow wr.heap.size (mvC X)) := below_setRow (below_new1 _ _) (Nat.le_refl _) _
          have hZ0 := hZ.below hbA
          have HO : Hid (X.ok ∧ i < n ∧ (x < wr.heap.size ∧ mf < wr.heap.size ∧ ml < wr.heap.size ∧ mc < wr.heap.size) ∧ g8 < wr.heap.size ∧ g9 < wr.heap.size) := ⟨hoX, hlt, hZ.pi.lts, hZ.b8.lt, hZ.b9.lt⟩
          obtain ⟨e0, e1, e2, e3, e4, e5, _⟩ := mv_cs bV0
          obtain ⟨T, hT⟩ : ∃ T : Nat, X.s.size = T := ⟨_, rfl⟩
          have hT2 : T ≤ 9223372036854775807 := by have := hoX.2.2.2.2.1; unfold maxLen at this; omega
          have hXp := hoX.2.2.2.1
          clear hX hr hbl hoX hlt hZ hbA
          by_cases q1 : 20000 < T
          · have r1 : (20000 : Int) < (T : Int) := by omega
            have HZ1 : Hid (MZ w _ x mf ml mc cp g8 g9 sm tm sk tk) := hZ0
            clear q1 hZ0
            go_wp2_with (first | (refine wpList_load_blk (by rfl) 35 _ (by rfl) b (o + i * 6) 6 (mvF X) (by rfl) _ HRG.out Tryz.underlying35 rfl sizeMv ?_; simp only [Act.put, List.setIfInBounds_toArray, List.set_cons_zero, List.set_cons_succ]) | (refine wpList_store_row (by rfl) 35 _ _ (by rfl) (wr.heap.size) (mvC X) (by rfl) (by rfl) 35 (_) (by exact p1) (sizeMv.trans (by rfl)) (by rfl) (mv_all _) ?_; simp only [Act.put, List.setIfInBounds_toArray, List.set_cons_zero, List.set_cons_succ]) | fail)
            go_roundw
            case rel => exact ⟨i + 1, _, _, _, _, HO.out.2.1, by simp, HZ1.out⟩
            case measure =>
              have := HO.out.2.1
              simp [intOf]
              omega
          · have r1 : ¬ ((20000 : Int) < (T : Int)) := by omega
            by_cases q2 : 40000 < X.p
            · have HZ1 : Hid (MZ w _ x mf ml mc cp g8 g9 sm tm sk tk) := hZ0
              clear q1 hZ0
              go_wp2_with (first | (refine wpList_load_blk (by rfl) 35 _ (by rfl) b (o + i * 6) 6 (mvF X) (by rfl) _ HRG.out Tryz.underlying35 rfl sizeMv ?_; simp only [Act.put, List.setIfInBounds_toArray, List.set_cons_zero, List.set_cons_succ]) | (refine wpList_store_row (by rfl) 35 _ _ (by rfl) (wr.heap.size) (mvC X) (by rfl) (by rfl) 35 (_) (by exact p1) (sizeMv.trans (by rfl)) (by rfl) (mv_all _) ?_; simp only [Act.put, List.setIfInBounds_toArray, List.set_cons_zero, List.set_cons_succ]) | fail)
              go_roundw
              case rel => exact ⟨i + 1, _, _, _, _, HO.out.2.1, by simp, HZ1.out⟩
              case measure =>
                have := HO.out.2.1
                simp [intOf]
                omega
            · have HTT : Hid (X.s.size ≤ 140737488355328) := by show _ ≤ _; omega
              have m8 := hZ0.b8
              have m9 := hZ0.b9
              clear q1
              go_wp2_with (first | (refine wpList_load_blk (by rfl) 35 _ (by rfl) b (o + i * 6) 6 (mvF X) (by rfl) _ HRG.out Tryz.underlying35 rfl sizeMv ?_; simp only [Act.put, List.setIfInBounds_toArray, List.set_cons_zero, List.set_cons_succ]) | (refine wpList_store_row (by rfl) 35 _ _ (by rfl) (wr.heap.size) (mvC X) (by rfl) (by rfl) 35 (_) (by exact p1) (sizeMv.trans (by rfl)) (by rfl) (mv_all _) ?_; simp only [Act.put, List.setIfInBounds_toArray, List.set_cons_zero, List.set_cons_succ]) | (refine wpList_load_rowg (by rfl) 32 _ (by rfl) (g8) (by rfl) 32 (mdC sm tm) (0, 0) _ (by exact m8) Tryz.underlying32 (by rfl) (sizeMd.trans (by rfl)) ?_; simp only [Act.put, List.setIfInBounds_toArray, List.set_cons_zero, List.set_cons_succ]) | (refine wpList_load_rowg (by rfl) 32 _ (by rfl) (g9) (by rfl) 32 (mdC sk tk) (0, 0) _ (by exact m9) Tryz.underlying32 (by rfl) (sizeMd.trans (by rfl)) ?_; simp only [Act.put, List.setIfInBounds_toArray, List.set_cons_zero, List.set_cons_succ]) | (refine wpList_load_rowg (by rfl) 35 _ (by rfl) (wr.heap.size) (by rfl) 35 (mvC X) (0, 0) _ (by exact bV0) Tryz.underlying35 (by rfl) (sizeMv.trans (by rfl)) ?_; simp only [Act.put, List.setIfInBounds_toArray, List.set_cons_zero, List.set_cons_succ]) | fail)
              clear m8 m9 e0 e1 e2 e3 e4 e5 p1 HRG
              obtain ⟨gV, hgV⟩ : ∃ gV, wr.heap.size = gV := ⟨_, rfl⟩
              have HO2 : Hid ((gV ≠ x ∧ gV ≠ mf ∧ gV ≠ ml ∧ gV ≠ mc) ∧ gV ≠ g8 ∧ gV ≠ g9) := by have := HO.out.2.2; show _ ∧ _; omega
              rw [hgV] at bV0 hZ0 ⊢
              generalize ((wr.alloc (.cells (mvC ⟨0, 0, 0, 0, ⟨#[]⟩, 0⟩) 35)).setRow gV (mvC X)) = W0 at *
              refine (move_any hZ0.pi X HO.out.1 HTT.out).mono ?_
              rintro e W1 ⟨s1, t1, s2, t2, rfl, hP1, hT1⟩
              have HZ2 : Hid (MZ w ((W1.setRow g8 (mdC s1 t1)).setRow g9 (mdC s2 t2)) x mf ml mc cp g8 g9 s1 t1 s2 t2) := hZ0.next hP1 hT1
              have v8 := fl_blk hT1 hZ0.b8 (by have := hZ0.n8; omega)
              have v9 : Blk (W1.setRow g8 (mdC s1 t1)) g9 32 (mdC sk tk) := (fl_blk hT1 hZ0.b9 (by have := hZ0.n9; omega)).other _ (by have := hZ0.ne; omega)
              have vV : Blk ((W1.setRow g8 (mdC s1 t1)).setRow g9 (mdC s2 t2)) gV 35 (mvC X) := ((fl_blk hT1 bV0 (by have := HO2.out; omega)).other _ (by have := HO2.out; omega)).other _ (by have := HO2.out; omega)
              have y8 := HZ2.out.b8
              obtain ⟨e0, e1, e2, e3, e4, e5, _⟩ := mv_cs vV
              have HS1 := HZ2.out.pi.standsM X.a X.m HO.out.1.2.1 HO.out.1.2.2.1
              clear hP1 hT1 hZ0 bV0 hgV
              go_wp2_with (first | (refine wpList_store_row (by rfl) 32 _ _ (by rfl) (g8) (mdC s1 t1) (by rfl) (by rfl) 32 (_) (by exact v8) (sizeMd.trans (by rfl)) (by rfl) (md_all _ _) ?_; simp only [Act.put, List.setIfInBounds_toArray, List.set_cons_zero, List.set_cons_succ]) | (refine wpList_store_row (by rfl) 32 _ _ (by rfl) (g9) (mdC s2 t2) (by rfl) (by rfl) 32 (_) (by exact v9) (sizeMd.trans (by rfl)) (by rfl) (md_all _ _) ?_; simp only [Act.put, List.setIfInBounds_toArray, List.set_cons_zero, List.set_cons_succ]) | (refine wpList_load_rowg (by rfl) 32 _ (by rfl) (g8) (by rfl) 32 (mdC s1 t1) (0, 0) _ (by exact y8) Tryz.underlying32 (by rfl) (sizeMd.trans (by rfl)) ?_; simp only [Act.put, List.setIfInBounds_toArray, List.set_cons_zero, List.set_cons_succ]) | fail)
              generalize ((W1.setRow g8 (mdC s1 t1)).setRow g9 (mdC s2 t2)) = W2 at *
              clear v8 v9 y8 e0 e1 e2 e3 e4 e5
              refine HS1.mono ?_
              rintro e W3 ⟨rfl, hb3⟩
              have HZ3 : Hid (MZ w W3 x mf ml mc cp g8 g9 s1 t1 s2 t2) := HZ2.out.below hb3
              have vV3 := vV.below hb3 vV.lt
              obtain ⟨e0, e1, e2, e3, e4, e5, _⟩ := mv_cs vV3
              have y9 := HZ3.out.b9
              have HS2 := HZ3.out.pi.standsK X.a X.m HO.out.1.2.1 HO.out.1.2.2.1
              clear HS1 hb3 HZ2 vV
              go_wp2_with (first | (refine wpList_load_rowg (by rfl) 32 _ (by rfl) (g9) (by rfl) 32 (mdC s2 t2) (0, 0) _ (by exact y9) Tryz.underlying32 (by rfl) (sizeMd.trans (by rfl)) ?_; simp only [Act.put, List.setIfInBounds_toArray, List.set_cons_zero, List.set_cons_succ]) | fail)
              clear y9 e0 e1 e2 e3 e4 e5
              refine HS2.mono ?_
              rintro e W4 ⟨rfl, hb4⟩
              have HZ4 : Hid (MZ w W4 x mf ml mc cp g8 g9 s1 t1 s2 t2) := HZ3.out.below hb4
              have z8 : W4.cell? ⟨g8, 0, none⟩ = some (.string s1) := (HZ4.out.b8.cell 0).trans rfl
              have z9 : W4.cell? ⟨g9, 0, none⟩ = some (.string s2) := (HZ4.out.b9.cell 0).trans rfl
              have hsm := HZ4.out.pi.small
              obtain ⟨S1, hS1⟩ : ∃ S1 : Nat, s1.size = S1 := ⟨_, rfl⟩
              obtain ⟨S3, hS3⟩ : ∃ S3 : Nat, s2.size = S3 := ⟨_, rfl⟩
              have l1 : S1 ≤ 1048576 := by omega
              have l3 : S3 ≤ 1048576 := by omega
              obtain ⟨SS, hSS⟩ : ∃ SS : Nat, S1 + S3 = SS := ⟨_, rfl⟩
              have eSS : (S1 : Int) + (S3 : Int) = (SS : Int) := by omega
              have lSS : SS ≤ 2097152 := by omega
              have hwS : IntKind.i64.wrap (SS : Int) = (SS : Int) := wrapI64_id _ (by omega) (by omega)
              clear HS2 hb4 HZ3 vV3 hsm hSS
              by_cases q3 : 200000 < SS
              · have r3 : (200000 : Int) < (SS : Int) := by omega
                go_wp2_with fail
                go_ret
                exact ⟨rfl, HZ4.out.pi.bel⟩
              · have r3 : ¬ ((200000 : Int) < (SS : Int)) := by omega
                go_wp2_with fail
                go_roundw
                case rel => exact ⟨i + 1, _, _, _, _, HO.out.2.1, by simp, HZ4.out⟩
                case measure =>
                  have := HO.out.2.1
                  simp [intOf]
                  omega
        · have j1 : ¬ ((i : Int) < (n : Int)) := by omega
          have HE : Hid (Below w.heap.size w wr) := hZ.pi.bel
          clear hZ hlt
          go_wp2_with fail
          go_ret
          exact ⟨rfl, HE.out⟩
end Go.Proofs.YtcmihdjbeihjbaaGreat
