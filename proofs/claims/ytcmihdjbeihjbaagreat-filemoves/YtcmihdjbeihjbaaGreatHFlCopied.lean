/- Moves of bytes: the statement's copied. -/
import Derived.Test.YtcmihdjbeihjbaaGreatHFlPI
import Derived.Test.YtcmihdjbeihjbaaGreatHInsPut
import Derived.Handy

namespace Go.Proofs.YtcmihdjbeihjbaaGreat
open Go Go.RowKit
set_option linter.unusedSimpArgs false
set_option linter.unusedVariables false
def DE3 (V : World) (R : Dn) (W : World) : Prop := Blk W (V.heap.size + 1 + 1 + 1) 32 (mdC R.s R.st) ∧ Below V.heap.size V W
theorem put_md3 {V W : World} {s0 : ByteArray} {t0 : Nat} (h : Blk W (V.heap.size + 1 + 1 + 1) 32 (mdC s0 t0)) (hb : Below V.heap.size V W) (s : ByteArray) (t : Nat) : Blk ((W.setCell ⟨V.heap.size + 1 + 1 + 1, 0, none⟩ (.string s)).setCell ⟨V.heap.size + 1 + 1 + 1, 1, none⟩ (.int .u64 ((t : Nat) : Int))).drew (V.heap.size + 1 + 1 + 1) 32 (mdC s t) ∧ Below V.heap.size V ((W.setCell ⟨V.heap.size + 1 + 1 + 1, 0, none⟩ (.string s)).setCell ⟨V.heap.size + 1 + 1 + 1, 1, none⟩ (.int .u64 ((t : Nat) : Int))).drew :=
  ⟨((h.put 0 (.string s)).put 1 (.int .u64 ((t : Nat) : Int))).drew, ((hb.setCell (by show V.heap.size ≤ V.heap.size + 1 + 1 + 1; omega) _).setCell (by show V.heap.size ≤ V.heap.size + 1 + 1 + 1; omega) _).drew⟩
theorem mbuilt_ac (p : Int) (s : ByteArray) (t : Nat) : Tryz.prog.built 134 [(0, .int .i64 0), (1, .int .i64 p), (3, .string s), (4, .int .u64 ((t : Nat) : Int))] = some (acC 0 p 0 s t) := by kernel_rfl
set_option maxRecDepth 100000 in
set_option maxHeartbeats 8000000 in
theorem copied_any (s : ByteArray) (ss : Nat) (k : ByteArray) (st : Nat) (X : Mv) (ha : -9223372036854775808 ≤ X.a ∧ X.a ≤ 9223372036854775807) (hm : -9223372036854775808 ≤ X.m ∧ X.m ≤ 9223372036854775807) (hp : -9223372036854775808 ≤ X.p ∧ X.p ≤ 9223372036854775807) (hs : s.size ≤ 1048576) (hk : k.size ≤ 1048576) (R : Dn) (hR : cpR s k st X.a X.m X.p X.t = R) (V : World) : Calls Tryz.prog 22 #[.agg (mdC s ss), .agg (mdC k st), .agg (mvC X)] V fun e w' => e = .returned (.tuple #[.int .i64 R.ans, .int .i64 R.err, .agg (mdC R.s R.st)]) ∧ Below V.heap.size V w' := by
  have hzm := zero_md
  have bM : Blk ((((V.alloc (.cells (mdC s ss) 32)).alloc (.cells (mdC k st) 32)).alloc (.cells (mvC X) 35)).alloc (.cells #[.string ⟨#[]⟩, .int .u64 0] 32)) V.heap.size 32 (mdC s ss) := (((Blk.new _ _ _).alloc _).alloc _).alloc _
  have bK : Blk ((((V.alloc (.cells (mdC s ss) 32)).alloc (.cells (mdC k st) 32)).alloc (.cells (mvC X) 35)).alloc (.cells #[.string ⟨#[]⟩, .int .u64 0] 32)) (V.heap.size + 1) 32 (mdC k st) := ((Blk.new1 _ _ _ _).alloc _).alloc _
  have bA : Blk ((((V.alloc (.cells (mdC s ss) 32)).alloc (.cells (mdC k st) 32)).alloc (.cells (mvC X) 35)).alloc (.cells #[.string ⟨#[]⟩, .int .u64 0] 32)) (V.heap.size + 1 + 1) 35 (mvC X) := (Blk.new2 _ _ _ _ _).alloc _
  have bR : Blk ((((V.alloc (.cells (mdC s ss) 32)).alloc (.cells (mdC k st) 32)).alloc (.cells (mvC X) 35)).alloc (.cells #[.string ⟨#[]⟩, .int .u64 0] 32)) (V.heap.size + 1 + 1 + 1) 32 (mdC ⟨#[]⟩ 0) := by
    have h : (((V.alloc (.cells (mdC s ss) 32)).alloc (.cells (mdC k st) 32)).alloc (.cells (mvC X) 35)).heap.size = V.heap.size + 1 + 1 + 1 := by simp
    have := Blk.new (((V.alloc (.cells (mdC s ss) 32)).alloc (.cells (mdC k st) 32)).alloc (.cells (mvC X) 35)) 32 (mdC ⟨#[]⟩ 0)
    rw [h] at this
    exact this
  have hbel : Below V.heap.size V ((((V.alloc (.cells (mdC s ss) 32)).alloc (.cells (mdC k st) 32)).alloc (.cells (mvC X) 35)).alloc (.cells #[.string ⟨#[]⟩, .int .u64 0] 32)) := (below_new3 _ _ _ _).alloc (by simp; omega) _
  obtain ⟨m0, m1, _, _⟩ := md_cs bM
  obtain ⟨k0, k1, _, _⟩ := md_cs bK
  obtain ⟨r0, r1, f0, f1⟩ := md_cs bR
  obtain ⟨c0, c1, c2, c3, c4, c5, _⟩ := mv_cs bA
  have HR : Hid (cpR s k st X.a X.m X.p X.t = R) := hR
  clear hR
  have hD : cpR s k st X.a X.m X.p X.t = (if X.a < 0 ∨ X.m < 0 ∨ X.p < 0 then ⟨0, 1, k, st⟩ else if (dnF k st 0 X.p 0 (prT s X.a.toNat X.m.toNat) X.t).err = 0 then ⟨((prT s X.a.toNat X.m.toNat).size : Int), 0, (dnF k st 0 X.p 0 (prT s X.a.toNat X.m.toNat) X.t).s, (dnF k st 0 X.p 0 (prT s X.a.toNat X.m.toNat) X.t).st⟩ else ⟨0, (dnF k st 0 X.p 0 (prT s X.a.toNat X.m.toNat) X.t).err, k, st⟩) := rfl
  rw [HR.out] at hD
  obtain ⟨S, hS⟩ : ∃ S : Nat, s.size = S := ⟨_, rfl⟩
  by_cases h0 : X.a < 0
  · rw [if_pos (.inl h0)] at hD
    have HD : Hid (R = _) := hD
    have HP : Hid (DE3 V ⟨0, 1, k, st⟩ _) := put_md3 bR hbel k st
    clear hD HR bR hbel bM bK bA
    go_enter Tryz.func22, Tryz.ntmps22
    go_wp2_with fail
    generalize ((((V.alloc (.cells (mdC s ss) 32)).alloc (.cells (mdC k st) 32)).alloc (.cells (mvC X) 35)).alloc (.cells #[.string ⟨#[]⟩, .int .u64 0] 32)) = V4 at *
    go_region
    go_wp2_with fail
    try simp only [Exit.inBlock, Exit.then]
    refine bodyPost_ret (res_ttc Tryz.results22 _ _ (V.heap.size + 1 + 1 + 1) 32 _ (0, 0) _ rfl (by exact HP.out.1) Tryz.underlying32 rfl (sizeMd.trans (by rfl))) rfl ?_
    rw [HD.out]
    exact ⟨by first | rfl | (rw [hS]; rfl), HP.out.2⟩
  · by_cases h1 : X.m < 0
    · rw [if_pos (.inr (.inl h1))] at hD
      have HD : Hid (R = _) := hD
      have HP : Hid (DE3 V ⟨0, 1, k, st⟩ _) := put_md3 bR hbel k st
      clear hD HR bR hbel bM bK bA
      go_enter Tryz.func22, Tryz.ntmps22
      go_wp2_with fail
      generalize ((((V.alloc (.cells (mdC s ss) 32)).alloc (.cells (mdC k st) 32)).alloc (.cells (mvC X) 35)).alloc (.cells #[.string ⟨#[]⟩, .int .u64 0] 32)) = V4 at *
      go_region
      go_wp2_with fail
      try simp only [Exit.inBlock, Exit.then]
      refine bodyPost_ret (res_ttc Tryz.results22 _ _ (V.heap.size + 1 + 1 + 1) 32 _ (0, 0) _ rfl (by exact HP.out.1) Tryz.underlying32 rfl (sizeMd.trans (by rfl))) rfl ?_
      rw [HD.out]
      exact ⟨by first | rfl | (rw [hS]; rfl), HP.out.2⟩
    · by_cases h2 : X.p < 0
      · rw [if_pos (.inr (.inr h2))] at hD
        have HD : Hid (R = _) := hD
        have HP : Hid (DE3 V ⟨0, 1, k, st⟩ _) := put_md3 bR hbel k st
        clear hD HR bR hbel bM bK bA
        go_enter Tryz.func22, Tryz.ntmps22
        go_wp2_with fail
        generalize ((((V.alloc (.cells (mdC s ss) 32)).alloc (.cells (mdC k st) 32)).alloc (.cells (mvC X) 35)).alloc (.cells #[.string ⟨#[]⟩, .int .u64 0] 32)) = V4 at *
        go_region
        go_wp2_with fail
        try simp only [Exit.inBlock, Exit.then]
        refine bodyPost_ret (res_ttc Tryz.results22 _ _ (V.heap.size + 1 + 1 + 1) 32 _ (0, 0) _ rfl (by exact HP.out.1) Tryz.underlying32 rfl (sizeMd.trans (by rfl))) rfl ?_
        rw [HD.out]
        exact ⟨by first | rfl | (rw [hS]; rfl), HP.out.2⟩
      · rw [if_neg (by omega)] at hD
        obtain ⟨z, hz⟩ : ∃ z : Nat, X.a = (z : Int) := ⟨X.a.toNat, by omega⟩
        obtain ⟨y, hy⟩ : ∃ y : Nat, X.m = (y : Int) := ⟨X.m.toNat, by omega⟩
        rw [show X.a.toNat = z by omega, show X.m.toNat = y by omega] at hD
        rw [hz] at c1
        rw [hy] at c2
        have HPT : Hid (∀ w : World, Calls Tryz.prog 26 #[.string s, .int .i64 (z : Int), .int .i64 (y : Int)] w fun e w' => e = .returned (.string (prT s z y)) ∧ w' = w) := part_any s z y (by omega) (by omega) (by omega)
        have hps : (prT s z y).size ≤ 140737488355328 := by
          rw [prT_size]
          unfold thN
          omega
        obtain ⟨D0, hD0⟩ : ∃ D0, dnF k st 0 X.p 0 (prT s z y) X.t = D0 := ⟨_, rfl⟩
        rw [hD0] at hD
        have HDN : Hid (∀ w : World, Calls Tryz.prog 44 #[.agg (mdC k st), .agg (acC 0 X.p 0 (prT s z y) X.t)] w fun e w' => e = .returned (.tuple #[.int .i64 D0.ans, .int .i64 D0.err, .agg (mdC D0.s D0.st)]) ∧ Below w.heap.size w w') := fun w => done_write k st 0 X.p 0 (prT s z y) X.t hp hps hk 0 (by decide) (by decide) (by decide) (by decide) D0 hD0 w
        have hba := mbuilt_ac X.p (prT s z y) X.t
        generalize prT s z y = PTX at *
        have n0 : ¬ ((z : Int) < 0) := by omega
        have n1 : ¬ ((y : Int) < 0) := by omega
        obtain ⟨T, hT⟩ : ∃ T : Nat, PTX.size = T := ⟨_, rfl⟩
        have hT9 : T ≤ 140737488355328 := by omega
        have HKK : Hid (Blk ((((V.alloc (.cells (mdC s ss) 32)).alloc (.cells (mdC k st) 32)).alloc (.cells (mvC X) 35)).alloc (.cells #[.string ⟨#[]⟩, .int .u64 0] 32)) (V.heap.size + 1) 32 (mdC k st) ∧ Blk ((((V.alloc (.cells (mdC s ss) 32)).alloc (.cells (mdC k st) 32)).alloc (.cells (mvC X) 35)).alloc (.cells #[.string ⟨#[]⟩, .int .u64 0] 32)) (V.heap.size + 1 + 1 + 1) 32 (mdC ⟨#[]⟩ 0) ∧ Below V.heap.size V ((((V.alloc (.cells (mdC s ss) 32)).alloc (.cells (mdC k st) 32)).alloc (.cells (mvC X) 35)).alloc (.cells #[.string ⟨#[]⟩, .int .u64 0] 32))) := ⟨bK, bR, hbel⟩
        clear HR bM bK bA hbel bR hD0 hz hy h0 h1 hps
        go_enter Tryz.func22, Tryz.ntmps22
        go_wp2_with fail
        refine (HPT.out _).mono ?_
        rintro e w9 ⟨rfl, hw9⟩
        subst w9
        go_wp2_with (first
          | (refine mv_build_at (by rfl) 134 _ (by rfl) [(0, .int .i64 0), (1, .int .i64 X.p), (3, .string PTX), (4, .int .u64 ((X.t : Nat) : Int))] (by rfl) (acC 0 X.p 0 PTX X.t) hba ?_; simp only [Act.put, List.setIfInBounds_toArray, List.set_cons_zero, List.set_cons_succ])
          | fail)
        clear m0 m1 k0 k1 r0 r1 f0 f1 c0 c1 c2 c3 c4 c5
        generalize ((((V.alloc (.cells (mdC s ss) 32)).alloc (.cells (mdC k st) 32)).alloc (.cells (mvC X) 35)).alloc (.cells #[.string ⟨#[]⟩, .int .u64 0] 32)) = V4 at *
        refine (HDN.out _).mono ?_
        rintro e w5 ⟨rfl, hb5⟩
        have k5 := HKK.out.1.below hb5 HKK.out.1.lt
        have r5 := HKK.out.2.1.below hb5 HKK.out.2.1.lt
        have HB5 : Hid (Below V.heap.size V w5) := HKK.out.2.2.trans (hb5.mono HKK.out.2.2.size)
        have HL5 : Hid (V.heap.size + 1 + 1 + 1 < w5.heap.size) := r5.lt
        clear HKK HDN HPT hb5
        have n5 : Blk (w5.alloc (.cells #[.string ⟨#[]⟩, .int .u64 0] 32)) w5.heap.size 32 (mdC ⟨#[]⟩ 0) := Blk.new _ _ _
        have HK6 : Hid (Blk ((w5.alloc (.cells #[.string ⟨#[]⟩, .int .u64 0] 32)).setRow w5.heap.size (mdC D0.s D0.st)) (V.heap.size + 1) 32 (mdC k st)) := (k5.alloc _).other _ (by have := HL5.out; omega)
        have HR6 : Hid (Blk ((w5.alloc (.cells #[.string ⟨#[]⟩, .int .u64 0] 32)).setRow w5.heap.size (mdC D0.s D0.st)) (V.heap.size + 1 + 1 + 1) 32 (mdC ⟨#[]⟩ 0)) := (r5.alloc _).other _ (by have := HL5.out; omega)
        have HD6 : Hid (Blk ((w5.alloc (.cells #[.string ⟨#[]⟩, .int .u64 0] 32)).setRow w5.heap.size (mdC D0.s D0.st)) w5.heap.size 32 (mdC D0.s D0.st)) := n5.set _
        have HB6 : Hid (Below V.heap.size V ((w5.alloc (.cells #[.string ⟨#[]⟩, .int .u64 0] 32)).setRow w5.heap.size (mdC D0.s D0.st))) := below_setRow (HB5.out.alloc HB5.out.size _) (by have := HL5.out; omega) _
        clear k5 r5
        by_cases hE : D0.err = 0
        · rw [if_pos hE] at hD
          have HD : Hid (R = _) := hD
          rw [hE]
          clear hD
          go_wp2_with (first
            | (refine wpList_store_row (by rfl) 32 _ _ (by rfl) (w5.heap.size) (mdC D0.s D0.st) (by rfl) (by rfl) 32 (mdC ⟨#[]⟩ 0) (by exact n5) (sizeMd.trans (by rfl)) (by rfl) (md_all _ _) ?_; simp only [Act.put, List.setIfInBounds_toArray, List.set_cons_zero, List.set_cons_succ])
            | fail)
          clear n5
          generalize ((w5.alloc (.cells #[.string ⟨#[]⟩, .int .u64 0] 32)).setRow w5.heap.size (mdC D0.s D0.st)) = w6 at *
          have HP : Hid (DE3 V ⟨(T : Int), 0, D0.s, D0.st⟩ _) := put_md3 HR6.out HB6.out D0.s D0.st
          obtain ⟨d0, d1, _, _⟩ := md_cs HD6.out
          obtain ⟨r0, r1, f0, f1⟩ := md_cs HR6.out
          clear HD6 HR6 HK6 HB6 HB5
          go_region
          go_wp2_with fail
          try simp only [Exit.inBlock, Exit.then]
          refine bodyPost_ret (res_ttc Tryz.results22 _ _ (V.heap.size + 1 + 1 + 1) 32 _ (0, 0) _ rfl (by exact HP.out.1) Tryz.underlying32 rfl (sizeMd.trans (by rfl))) rfl ?_
          rw [HD.out]
          exact ⟨by first | rfl | (rw [hT]; rfl), HP.out.2⟩
        · rw [if_neg hE] at hD
          have HD : Hid (R = _) := hD
          clear hD
          go_wp2_with (first
            | (refine wpList_store_row (by rfl) 32 _ _ (by rfl) (w5.heap.size) (mdC D0.s D0.st) (by rfl) (by rfl) 32 (mdC ⟨#[]⟩ 0) (by exact n5) (sizeMd.trans (by rfl)) (by rfl) (md_all _ _) ?_; simp only [Act.put, List.setIfInBounds_toArray, List.set_cons_zero, List.set_cons_succ])
            | fail)
          clear n5
          generalize ((w5.alloc (.cells #[.string ⟨#[]⟩, .int .u64 0] 32)).setRow w5.heap.size (mdC D0.s D0.st)) = w6 at *
          have HP : Hid (DE3 V ⟨0, D0.err, k, st⟩ _) := put_md3 HR6.out HB6.out k st
          obtain ⟨d0, d1, _, _⟩ := md_cs HK6.out
          obtain ⟨r0, r1, f0, f1⟩ := md_cs HR6.out
          clear HD6 HR6 HK6 HB6 HB5
          go_region
          go_wp2_with fail
          try simp only [Exit.inBlock, Exit.then]
          refine bodyPost_ret (res_ttc Tryz.results22 _ _ (V.heap.size + 1 + 1 + 1) 32 _ (0, 0) _ rfl (by exact HP.out.1) Tryz.underlying32 rfl (sizeMd.trans (by rfl))) rfl ?_
          rw [HD.out]
          exact ⟨by first | rfl | (rw [hT]; rfl), HP.out.2⟩
end Go.Proofs.YtcmihdjbeihjbaaGreat
