/- The statements' own test that a cache is awake; the statement CacheNil, called with whatever reference, block and room: it returns true. -/
import Derived.Test.YtdniigefmlmcdaaHCaAwake
import Derived.Handy

namespace Go.Proofs.Ytdniigefmlmcdaa
open Go Go.RowKit
set_option linter.unusedSimpArgs false
set_option linter.unusedVariables false

theorem awake8_put (X : Vector Nat 32) (hX : X = dgB f7) : ∀ (B g c m : Nat) (q : QD) (w : World), Quiet q 0 → B ≤ w.heap.size → DiskQ w B g 16 (fun _ => 0) 0 0 q → ¬ foot g 16 q c → ¬ foot g 16 q m → Blk w c 170 (caC (some ⟨g, 0, none⟩) none 1 m none none 0 0 0 0) → MapIs rfV ptV w m [] → Calls Try.prog 43 #[.pointer (some ⟨c, 0, none⟩), .int .u32 3, .agg (va 256 (iv .u8 f7))] w fun e w' => e = .returned (.tuple #[.agg (rfC (3, X)), .int .i64 0]) ∧ ∃ b, w.heap.size ≤ b ∧ Blk w' c 170 (caC (some ⟨g, 0, none⟩) none 1 m (some ⟨b, 0, none⟩) (some ⟨b, 0, none⟩) 0 0 0 1) ∧ Blk w' b 186 (enC (3, X) f7 none none) ∧ MapIs rfV ptV w' m [((3, X), b)] ∧ Turns (cafoot g 16 q c m) w w' := fun B g c m q w hq hB hd hnc hnm hg hm => by
  subst hX
  refine (caPut_first (room := 1) (cn := 0) (by decide) (by decide) 3 (by decide) (by decide) (by decide) f7 (by decide) (by decide) hq w hB hd hnc hnm hg hm).mono ?_
  rintro e w' ⟨h1, b, q', h2, h3, h4, h5, _, _, h6, _⟩
  exact ⟨h1, b, h2, h3, h4, h5, h6⟩
theorem awake8_get (X : Vector Nat 32) : ∀ (g c m b : Nat) (w : World), b ≠ c → Blk w c 170 (caC (some ⟨g, 0, none⟩) none 1 m (some ⟨b, 0, none⟩) (some ⟨b, 0, none⟩) 0 0 0 1) → Blk w b 186 (enC (3, X) f7 none none) → MapIs rfV ptV w m [((3, X), b)] → Calls Try.prog 44 #[.pointer (some ⟨c, 0, none⟩), .agg (rfC (3, X))] w fun e w' => e = .returned (.tuple #[.agg (va 256 (iv .u8 f7)), .int .i64 0]) ∧ Blk w' c 170 (caC (some ⟨g, 0, none⟩) none 1 m (some ⟨b, 0, none⟩) (some ⟨b, 0, none⟩) 1 0 0 1) ∧ Turns (two c b) w w' := fun g c m b w hcb hg he hm => by
  refine (caGet_hit (h := 0) (3, X) (fun e => by have := congrArg Prod.fst e; simp [rf0] at this) f7 hcb (by decide) w hg he hm).mono ?_
  rintro e w' ⟨h1, h2, _, h3⟩
  exact ⟨h1, h2, h3⟩
theorem awake8_has (X : Vector Nat 32) : ∀ (g c m b : Nat) (w : World), Blk w c 170 (caC (some ⟨g, 0, none⟩) none 1 m (some ⟨b, 0, none⟩) (some ⟨b, 0, none⟩) 1 0 0 1) → MapIs rfV ptV w m [((3, X), b)] → Calls Try.prog 48 #[.pointer (some ⟨c, 0, none⟩), .agg (rfC (3, X))] w fun e w' => e = .returned (.bool true) ∧ Below w.heap.size w w' := fun g c m b w hg hm => by
  have := caHas_at (3, X) [((3, X), b)] w hg hm
  rw [show (findIn (3, X) [((3, X), b)]).isSome = true by simp [findIn]] at this
  exact this
set_option maxRecDepth 100000 in
set_option maxHeartbeats 4000000 in
theorem awake8_any (w : World) : Calls Try.prog 34 #[] w fun e w' => e = .returned (.bool true) ∧ Below w.heap.size w w' := by
  obtain ⟨X, hX⟩ : ∃ X, X = dgB f7 := ⟨_, rfl⟩
  have hP : Hid (∀ (B g c m : Nat) (q : QD) (w : World), Quiet q 0 → B ≤ w.heap.size → DiskQ w B g 16 (fun _ => 0) 0 0 q → ¬ foot g 16 q c → ¬ foot g 16 q m → Blk w c 170 (caC (some ⟨g, 0, none⟩) none 1 m none none 0 0 0 0) → MapIs rfV ptV w m [] → Calls Try.prog 43 #[.pointer (some ⟨c, 0, none⟩), .int .u32 3, .agg (va 256 (iv .u8 f7))] w fun e w' => e = .returned (.tuple #[.agg (rfC (3, X)), .int .i64 0]) ∧ ∃ b, w.heap.size ≤ b ∧ Blk w' c 170 (caC (some ⟨g, 0, none⟩) none 1 m (some ⟨b, 0, none⟩) (some ⟨b, 0, none⟩) 0 0 0 1) ∧ Blk w' b 186 (enC (3, X) f7 none none) ∧ MapIs rfV ptV w' m [((3, X), b)] ∧ Turns (cafoot g 16 q c m) w w') := awake8_put X hX
  have hG : Hid (∀ (g c m b : Nat) (w : World), b ≠ c → Blk w c 170 (caC (some ⟨g, 0, none⟩) none 1 m (some ⟨b, 0, none⟩) (some ⟨b, 0, none⟩) 0 0 0 1) → Blk w b 186 (enC (3, X) f7 none none) → MapIs rfV ptV w m [((3, X), b)] → Calls Try.prog 44 #[.pointer (some ⟨c, 0, none⟩), .agg (rfC (3, X))] w fun e w' => e = .returned (.tuple #[.agg (va 256 (iv .u8 f7)), .int .i64 0]) ∧ Blk w' c 170 (caC (some ⟨g, 0, none⟩) none 1 m (some ⟨b, 0, none⟩) (some ⟨b, 0, none⟩) 1 0 0 1) ∧ Turns (two c b) w w') := awake8_get X
  have hH : Hid (∀ (g c m b : Nat) (w : World), Blk w c 170 (caC (some ⟨g, 0, none⟩) none 1 m (some ⟨b, 0, none⟩) (some ⟨b, 0, none⟩) 1 0 0 1) → MapIs rfV ptV w m [((3, X), b)] → Calls Try.prog 48 #[.pointer (some ⟨c, 0, none⟩), .agg (rfC (3, X))] w fun e w' => e = .returned (.bool true) ∧ Below w.heap.size w w') := awake8_has X
  clear hX
  have hz := zero_bk
  have hzr := zero_ref
  have hN : Hid (∀ w : World, Calls Try.prog 9 #[.int .i64 16] w fun e w' => ∃ g q, e = .returned (.tuple #[.pointer (some ⟨g, 0, none⟩), .int .i64 0]) ∧ DiskQ w' w.heap.size g 16 (fun _ => 0) 0 0 q ∧ Quiet q 0 ∧ Below w.heap.size w w') := fun w => diskNew_any 16 (by decide) (by decide) w
  have hC : Hid (∀ (g : Nat) (w : World), Calls Try.prog 33 #[.pointer (some ⟨g, 0, none⟩), .pointer none, .int .i64 1] w fun e w' => ∃ c m, e = .returned (.tuple #[.pointer (some ⟨c, 0, none⟩), .int .i64 0]) ∧ (w.heap.size ≤ c ∧ w.heap.size ≤ m) ∧ Blk w' c 170 (caC (some ⟨g, 0, none⟩) none 1 m none none 0 0 0 0) ∧ MapIs rfV ptV w' m [] ∧ Below w.heap.size w w') := fun g w => caNew_ok g none 1 (by decide) (by decide) w
  have e7 : (va 256 (iv .u8 fun _ => 0)).setIfInBounds 0 (.int .u8 7) = va 256 (iv .u8 f7) := by
    rw [va_set]
    refine va_congr fun i _ => ?_
    unfold upd iv f7
    by_cases hi : i = 0
    · rw [if_pos hi, if_pos hi]
      rfl
    · rw [if_neg hi, if_neg hi]
  have HE7 : Hid ((va 256 (iv .u8 fun _ => 0)).setIfInBounds 0 (.int .u8 7) = va 256 (iv .u8 f7)) := e7
  clear e7
  go_enter Try.func34, Try.ntmps34
  go_wp2_with fail
  refine (hN.out _).mono ?_
  rintro e w1 ⟨g, q, rfl, hq, hqt, hb1⟩
  have HQ1 : Hid (DiskQ w1 w.heap.size g 16 (fun _ => 0) 0 0 q) := hq
  have HT1 : Hid (Quiet q 0) := hqt
  clear hq hqt
  go_wp2_with fail
  refine (hC.out _ _).mono ?_
  rintro e w2 ⟨c, m, rfl, hcm, hg2, hm2, hb2⟩
  have HG2 : Hid (Blk w2 c 170 (caC (some ⟨g, 0, none⟩) none 1 m none none 0 0 0 0)) := hg2
  have HM2 : Hid (MapIs rfV ptV w2 m []) := hm2
  have HQ2 : Hid (DiskQ w2 w.heap.size g 16 (fun _ => 0) 0 0 q) := HQ1.out.below hb2
  have HCM : Hid (w1.heap.size ≤ c ∧ w1.heap.size ≤ m) := hcm
  have HNF : Hid (¬ foot g 16 q c ∧ ¬ foot g 16 q m) := ⟨fun z => by have := (HQ1.out.foots _ z).2; have := hcm.1; omega, fun z => by have := (HQ1.out.foots _ z).2; have := hcm.2; omega⟩
  have hb2' : Below w.heap.size w w2 := hb1.trans (hb2.mono hb1.size)
  have HL1 : Hid (w.heap.size ≤ w1.heap.size) := hb1.size
  clear hg2 hm2 hcm hb1 hb2 HQ1 hN hC
  go_wp2_with fail
  rw [HE7.out]
  refine (hP.out _ g c m q w2 HT1.out hb2'.size HQ2.out HNF.out.1 HNF.out.2 HG2.out HM2.out).mono ?_
  rintro e w3 ⟨rfl, b, hb3, hg3, he3, hm3, ht3⟩
  have HLB : Hid (b < w3.heap.size ∧ c < w3.heap.size ∧ b ≠ c ∧ m < w3.heap.size) := ⟨he3.lt, hg3.lt, by
    have := HG2.out.lt
    omega, hm3.lt⟩
  have x3 := Blk.new w3 48 (rfC rf0)
  have x4 := x3.set (rfC (3, X))
  have hb4 : Below w3.heap.size w3 ((w3.alloc (.cells (rfC rf0) 48)).setRow w3.heap.size (rfC (3, X))) := below_setRow (below_new1 _ _) (Nat.le_refl _) _
  have HG4 : Hid (Blk ((w3.alloc (.cells (rfC rf0) 48)).setRow w3.heap.size (rfC (3, X))) c 170 (caC (some ⟨g, 0, none⟩) none 1 m (some ⟨b, 0, none⟩) (some ⟨b, 0, none⟩) 0 0 0 1)) := hg3.below hb4 hg3.lt
  have HE4 : Hid (Blk ((w3.alloc (.cells (rfC rf0) 48)).setRow w3.heap.size (rfC (3, X))) b 186 (enC (3, X) f7 none none)) := he3.below hb4 he3.lt
  have HM4 : Hid (MapIs rfV ptV ((w3.alloc (.cells (rfC rf0) 48)).setRow w3.heap.size (rfC (3, X))) m [((3, X), b)]) := hm3.below hb4 hm3.lt
  have hlow : Below w.heap.size w2 w3 := ht3.below hb2'.size fun z hz => by
    have h1 := HL1.out
    have h2 := HCM.out
    rcases hz with u | u | u
    · exact (HQ2.out.foots z u).1
    · omega
    · omega
  have hb4' : Below w.heap.size w ((w3.alloc (.cells (rfC rf0) 48)).setRow w3.heap.size (rfC (3, X))) := (hb2'.trans hlow).trans (hb4.mono (hb2'.trans hlow).size)
  have HS3 : Hid (w.heap.size ≤ w3.heap.size) := (hb2'.trans hlow).size
  have HB3 : Hid (w2.heap.size ≤ b) := hb3
  have HL2 : Hid (w.heap.size ≤ w2.heap.size) := hb2'.size
  clear hg3 he3 hm3 ht3 hb4 hlow HG2 HM2 HQ2 HT1 hP hb3 hb2'
  go_wp2_with (first
    | (refine wpList_store_row (by rfl) 48 _ _ (by rfl) (w3.heap.size) (rfC (3, X)) (by rfl) (by rfl) 48 (_) (by exact x3) (slSizeRef.trans (by rw [rfC_size])) (by simp only [rfC_size]) (rfC_all _) ?_; simp only [Act.put, List.setIfInBounds_toArray, List.set_cons_zero, List.set_cons_succ])
    | (refine wpList_load_rowg (by rfl) 48 _ (by rfl) (w3.heap.size) (by rfl) 48 (rfC (3, X)) (0, 0) _ (by exact x4) Try.underlying48 (by rfl) (slSizeRef.trans (by rw [rfC_size])) ?_; simp only [Act.put, List.setIfInBounds_toArray, List.set_cons_zero, List.set_cons_succ])
    | fail)
  clear x3
  generalize ((w3.alloc (.cells (rfC rf0) 48)).setRow w3.heap.size (rfC (3, X))) = w4 at *
  generalize hX5 : w3.heap.size = x5 at *
  clear hX5
  refine (hG.out _ _ _ b _ HLB.out.2.2.1 HG4.out HE4.out HM4.out).mono ?_
  rintro e w5 ⟨rfl, hg5, ht5⟩
  have x55 := ht5.blk x4 (fun z => by have := HLB.out; rcases z with z | z <;> omega)
  have HM5 : Hid (MapIs rfV ptV w5 m [((3, X), b)]) := HM4.out.of (ht5.block m HM4.out.lt (fun z => by
    rcases z with z | z
    · exact HM4.out.ne HG4.out z
    · exact HM4.out.ne HE4.out z))
  have y5 := Blk.new w5 60 (va 256 (iv .u8 fun _ => 0))
  have y6 := y5.set (va 256 (iv .u8 f7))
  have hb6 : Below w5.heap.size w5 ((w5.alloc (.cells (va 256 (iv .u8 fun _ => 0)) 60)).setRow w5.heap.size (va 256 (iv .u8 f7))) := below_setRow (below_new1 _ _) (Nat.le_refl _) _
  have x6 := x55.below hb6 x55.lt
  have HG6 : Hid (Blk ((w5.alloc (.cells (va 256 (iv .u8 fun _ => 0)) 60)).setRow w5.heap.size (va 256 (iv .u8 f7))) c 170 (caC (some ⟨g, 0, none⟩) none 1 m (some ⟨b, 0, none⟩) (some ⟨b, 0, none⟩) 1 0 0 1)) := hg5.below hb6 hg5.lt
  have HM6 : Hid (MapIs rfV ptV ((w5.alloc (.cells (va 256 (iv .u8 fun _ => 0)) 60)).setRow w5.heap.size (va 256 (iv .u8 f7))) m [((3, X), b)]) := HM5.out.below hb6 HM5.out.lt
  have hlow : Below w.heap.size w4 w5 := ht5.below hb4'.size fun z hz => by
    have h1 := HL1.out
    have h2 := HCM.out
    have h3 := HB3.out
    have h4 := HL2.out
    rcases hz with u | u <;> omega
  have hb6' : Below w.heap.size w ((w5.alloc (.cells (va 256 (iv .u8 fun _ => 0)) 60)).setRow w5.heap.size (va 256 (iv .u8 f7))) := (hb4'.trans hlow).trans (hb6.mono (hb4'.trans hlow).size)
  have z0 : ((w5.alloc (.cells (va 256 (iv .u8 fun _ => 0)) 60)).setRow w5.heap.size (va 256 (iv .u8 f7))).cell? ⟨w5.heap.size, 0, none⟩ = some (.int .u8 7) := by
    rw [y6.cell]
    rfl
  have z1 : ((w5.alloc (.cells (va 256 (iv .u8 fun _ => 0)) 60)).setRow w5.heap.size (va 256 (iv .u8 f7))).cell? ⟨x5, 0, none⟩ = some (.int .u32 3) := by
    rw [x6.cell]
    rfl
  clear hg5 ht5 x55 hb6 hlow HM5 HG4 HE4 HM4 hG hb4' x4
  go_wp2_with (first
    | (refine wpList_store_row (by rfl) 60 _ _ (by rfl) (w5.heap.size) (va 256 (iv .u8 f7)) (by rfl) (by rfl) 60 _ y5 (sizeBk.trans (by rw [va_size])) (by simp only [va_size]) (iv_one _ _ _) ?_; simp only [Act.put, List.setIfInBounds_toArray, List.set_cons_zero, List.set_cons_succ])
    | (refine wpList_load_rowg (by rfl) 48 _ (by rfl) (x5) (by rfl) 48 (rfC (3, X)) (0, 0) _ (by exact x6) Try.underlying48 (by rfl) (slSizeRef.trans (by rw [rfC_size])) ?_; simp only [Act.put, List.setIfInBounds_toArray, List.set_cons_zero, List.set_cons_succ])
    | fail)
  clear y5 y6
  generalize ((w5.alloc (.cells (va 256 (iv .u8 fun _ => 0)) 60)).setRow w5.heap.size (va 256 (iv .u8 f7))) = w6 at *
  refine (hH.out _ _ _ b _ HG6.out HM6.out).mono ?_
  rintro e w7 ⟨rfl, hb7⟩
  go_wp2_with fail
  go_ret
  exact ⟨rfl, hb6'.trans (hb7.mono hb6'.size)⟩
set_option maxRecDepth 100000 in
set_option maxHeartbeats 16000000 in
theorem cacheNil_true (k : Rf) (hk : k = rf0) (f : Nat → Nat) (room : Int) (w : World) : Calls Try.prog 7 #[.agg (rfC k), .agg (va 256 (iv .u8 f)), .int .i64 room] w fun e w' => e = .returned (.bool true) ∧ Below w.heap.size w w' := by
  have hG : Hid (∀ w : World, Calls Try.prog 44 #[.pointer none, .agg (rfC k)] w fun e w' => e = .returned (.tuple #[.agg (va 256 (iv .u8 fun _ => 0)), .int .i64 0]) ∧ Below w.heap.size w w') := fun w => by
    have := caGet_nil k w
    rw [if_pos hk] at this
    exact this
  have hCk : Hid (∀ w : World, Calls Try.prog 46 #[.pointer none, .agg (rfC k)] w fun e w' => e = .returned (.int .i64 0) ∧ Below w.heap.size w w') := fun w => by
    have := caCheck_nil k w
    rw [if_pos hk] at this
    exact this
  have heq : ∀ W, (Op.equalIn 10000 48 (.agg (rfC k)) (.agg (rfC rf0))).run Try.prog W = .ok true W := fun W => by
    have := eq_root 9997 k.1 rf0.1 k.2 rf0.2 W
    rw [show decide ((k.1, k.2) = (rf0.1, rf0.2)) = true from decide_eq_true hk] at this
    exact this
  have heq0 : ∀ W, (Op.equalIn 10000 48 (.agg (rfC rf0)) (.agg (rfC rf0))).run Try.prog W = .ok true W := fun W => by
    have := eq_root 9997 rf0.1 rf0.1 rf0.2 rf0.2 W
    rw [decide_eq_true rfl] at this
    exact this
  have heqb : ∀ W, (Op.equalIn 10000 60 (.agg (va 256 (iv .u8 fun _ => 0))) (.agg (va 256 (iv .u8 fun _ => 0)))).run Try.prog W = .ok true W := fun W => by
    have := eq_bk 60 Try.underlying60 (fun _ => 0) (fun _ => 0) W
    rw [decide_eq_true (fun i hi => rfl)] at this
    exact this
  have hz := zero_bk
  have hzr := zero_ref
  have hNw : Hid (∀ w : World, Calls Try.prog 33 #[.pointer none, .pointer none, .int .i64 room] w fun e w' => e = .returned (.tuple #[.pointer none, .int .i64 1]) ∧ w = w') := caNew_nil room
  have hAw : Hid (∀ w : World, Calls Try.prog 34 #[] w fun e w' => e = .returned (.bool true) ∧ Below w.heap.size w w') := awake8_any
  have hPt : Hid (∀ w : World, Calls Try.prog 43 #[.pointer none, .int .u32 (k.1 : Int), .agg (va 256 (iv .u8 f))] w fun e w' => e = .returned (.tuple #[.agg (rfC rf0), .int .i64 4]) ∧ Below w.heap.size w w') := caPut_nil (k.1 : Int) f
  have hHs : Hid (∀ w : World, Calls Try.prog 48 #[.pointer none, .agg (rfC k)] w fun e w' => e = .returned (.bool false) ∧ Below w.heap.size w w') := caHas_nil k
  have hFg : Hid (∀ w : World, Calls Try.prog 40 #[.pointer none, .int .u32 (k.1 : Int)] w fun e w' => e = .returned (.int .i64 0) ∧ w = w') := caForget_nil (k.1 : Int)
  have hEn : Hid (∀ w : World, Calls Try.prog 47 #[.pointer none] w fun e w' => e = .returned (.slice none 0 0) ∧ w = w') := caEntries_nil
  have hCo : Hid (∀ w : World, Calls Try.prog 49 #[.pointer none] w fun e w' => e = .returned (.agg #[.int .i64 0, .int .i64 0, .int .i64 0, .int .i64 0]) ∧ Below w.heap.size w w') := caCounts_nil
  have hDi : Hid (∀ w : World, Calls Try.prog 50 #[.pointer none] w fun e w' => e = .returned (.pointer none) ∧ w = w') := caDisk_nil
  have hLo : Hid (∀ w : World, Calls Try.prog 51 #[.pointer none] w fun e w' => e = .returned (.pointer none) ∧ w = w') := caLog_nil
  clear hk
  have k0 : Blk ((w.alloc (.cells (rfC k) 48)).alloc (.cells (va 256 (iv .u8 f)) 60)) w.heap.size 48 (rfC k) := (Blk.new _ _ _).alloc _
  have l0 : Blk ((w.alloc (.cells (rfC k) 48)).alloc (.cells (va 256 (iv .u8 f)) 60)) (w.heap.size + 1) 60 (va 256 (iv .u8 f)) := Blk.new1 _ _ _ _
  have hb0 : Below w.heap.size w ((w.alloc (.cells (rfC k) 48)).alloc (.cells (va 256 (iv .u8 f)) 60)) := below_new2 _ _ _
  go_enter Try.func7, Try.ntmps7
  go_wp2_with fail
  generalize ((w.alloc (.cells (rfC k) 48)).alloc (.cells (va 256 (iv .u8 f)) 60)) = v0 at *
  refine (hNw.out _).mono ?_
  rintro e _ ⟨rfl, rfl⟩
  go_wp2_with fail
  refine (hAw.out _).mono ?_
  rintro e v1 ⟨rfl, hb⟩
  have k1 := k0.below hb k0.lt
  have l1 := l0.below hb l0.lt
  have hb1 : Below w.heap.size w v1 := hb0.trans (hb.mono hb0.size)
  clear k0 l0 hb0 hb
  go_wp2_with (first
    | (refine wpList_load_rowg (by rfl) 48 _ (by rfl) (w.heap.size) (by rfl) 48 (rfC k) (0, 0) _ (by exact k1) Try.underlying48 (by rfl) (slSizeRef.trans (by rw [rfC_size])) ?_; simp only [Act.put, List.setIfInBounds_toArray, List.set_cons_zero, List.set_cons_succ])
    | fail)
  refine (hG.out _).mono ?_
  rintro e v2 ⟨rfl, hb⟩
  have k2 := k1.below hb k1.lt
  have l2 := l1.below hb l1.lt
  have hb2 : Below w.heap.size w v2 := hb1.trans (hb.mono hb1.size)
  clear k1 l1 hb1 hb
  have y2 := Blk.new v2 60 (va 256 (iv .u8 fun _ => 0))
  have y3 := y2.set (va 256 (iv .u8 fun _ => 0))
  have hb : Below v2.heap.size v2 ((v2.alloc (.cells (va 256 (iv .u8 fun _ => 0)) 60)).setRow v2.heap.size (va 256 (iv .u8 fun _ => 0))) := below_setRow (below_new1 _ _) (Nat.le_refl _) _
  have k3 := k2.below hb k2.lt
  have l3 := l2.below hb l2.lt
  have hb3 : Below w.heap.size w ((v2.alloc (.cells (va 256 (iv .u8 fun _ => 0)) 60)).setRow v2.heap.size (va 256 (iv .u8 fun _ => 0))) := hb2.trans (hb.mono hb2.size)
  clear hb k2 l2 hb2
  go_wp2_with (first
    | (refine wpList_store_row (by rfl) 60 _ _ (by rfl) (v2.heap.size) (va 256 (iv .u8 (fun _ => 0))) (by rfl) (by rfl) 60 _ y2 (sizeBk.trans (by rw [va_size])) (by simp only [va_size]) (iv_one _ _ _) ?_; simp only [Act.put, List.setIfInBounds_toArray, List.set_cons_zero, List.set_cons_succ])
    | (refine wpList_load_rowg (by rfl) 48 _ (by rfl) (w.heap.size) (by rfl) 48 (rfC k) (0, 0) _ (by exact k3) Try.underlying48 (by rfl) (slSizeRef.trans (by rw [rfC_size])) ?_; simp only [Act.put, List.setIfInBounds_toArray, List.set_cons_zero, List.set_cons_succ])
    | fail)
  clear y2
  generalize ((v2.alloc (.cells (va 256 (iv .u8 fun _ => 0)) 60)).setRow v2.heap.size (va 256 (iv .u8 fun _ => 0))) = v3 at *
  generalize v2.heap.size = sy at *
  refine (hCk.out _).mono ?_
  rintro e v4 ⟨rfl, hb⟩
  have y4 := y3.below hb y3.lt
  clear y3
  have k4 := k3.below hb k3.lt
  have l4 := l3.below hb l3.lt
  have hb4 : Below w.heap.size w v4 := hb3.trans (hb.mono hb3.size)
  clear k3 l3 hb3 hb
  have z4 : v4.cell? ⟨w.heap.size, 0, none⟩ = some (.int .u32 (k.1 : Int)) := by
    rw [k4.cell]
    exact va_at (rfF k.1 k.2) (by decide)
  go_wp2_with (first
    | (refine wpList_load_rowg (by rfl) 48 _ (by rfl) (w.heap.size) (by rfl) 48 (rfC k) (0, 0) _ (by exact k4) Try.underlying48 (by rfl) (slSizeRef.trans (by rw [rfC_size])) ?_; simp only [Act.put, List.setIfInBounds_toArray, List.set_cons_zero, List.set_cons_succ])
    | (refine wpList_load_row (by rfl) 60 _ (by rfl) (w.heap.size + 1) (by rfl) 60 (va 256 (iv .u8 f)) (0, 0) _ l4 Try.underlying60 (by rfl) (sizeBk.trans (by rw [va_size])) ?_; simp only [Act.put, List.setIfInBounds_toArray, List.set_cons_zero, List.set_cons_succ])
    | fail)
  refine (hPt.out _).mono ?_
  rintro e v5 ⟨rfl, hb⟩
  have y5 := y4.below hb y4.lt
  clear y4 z4
  have k5 := k4.below hb k4.lt
  have l5 := l4.below hb l4.lt
  have hb5 : Below w.heap.size w v5 := hb4.trans (hb.mono hb4.size)
  clear k4 l4 hb4 hb
  have x5 := Blk.new v5 48 (rfC rf0)
  have x6 := x5.set (rfC rf0)
  have hb : Below v5.heap.size v5 ((v5.alloc (.cells (rfC rf0) 48)).setRow v5.heap.size (rfC rf0)) := below_setRow (below_new1 _ _) (Nat.le_refl _) _
  have k6 := k5.below hb k5.lt
  have y6 := y5.below hb y5.lt
  have hb6 : Below w.heap.size w ((v5.alloc (.cells (rfC rf0) 48)).setRow v5.heap.size (rfC rf0)) := hb5.trans (hb.mono hb5.size)
  clear hb k5 l5 hb5 y5
  go_wp2_with (first
    | (refine wpList_store_row (by rfl) 48 _ _ (by rfl) (v5.heap.size) (rfC rf0) (by rfl) (by rfl) 48 (_) (by exact x5) (slSizeRef.trans (by rw [rfC_size])) (by simp only [rfC_size]) (rfC_all _) ?_; simp only [Act.put, List.setIfInBounds_toArray, List.set_cons_zero, List.set_cons_succ])
    | (refine wpList_load_rowg (by rfl) 48 _ (by rfl) (w.heap.size) (by rfl) 48 (rfC k) (0, 0) _ (by exact k6) Try.underlying48 (by rfl) (slSizeRef.trans (by rw [rfC_size])) ?_; simp only [Act.put, List.setIfInBounds_toArray, List.set_cons_zero, List.set_cons_succ])
    | (refine wpList_load_rowg (by rfl) 48 _ (by rfl) (v5.heap.size) (by rfl) 48 (rfC rf0) (0, 0) _ (by exact x6) Try.underlying48 (by rfl) (slSizeRef.trans (by rw [rfC_size])) ?_; simp only [Act.put, List.setIfInBounds_toArray, List.set_cons_zero, List.set_cons_succ])
    | (refine wpList_load_row (by rfl) 60 _ (by rfl) (sy) (by rfl) 60 (va 256 (iv .u8 (fun _ => 0))) (0, 0) _ y6 Try.underlying60 (by rfl) (sizeBk.trans (by rw [va_size])) ?_; simp only [Act.put, List.setIfInBounds_toArray, List.set_cons_zero, List.set_cons_succ])
    | (refine wpList_load_rowg (by rfl) 60 _ (by rfl) (sy) (by rfl) 60 (va 256 (iv .u8 (fun _ => 0))) (0, 0) _ y6 Try.underlying60 (by rfl) (sizeBk.trans (by rw [va_size])) ?_; simp only [Act.put, List.setIfInBounds_toArray, List.set_cons_zero, List.set_cons_succ])
    | fail)
  clear x5 x6 y6
  generalize ((v5.alloc (.cells (rfC rf0) 48)).setRow v5.heap.size (rfC rf0)) = v6 at *
  refine (hHs.out _).mono ?_
  rintro e v7 ⟨rfl, hb⟩
  have k7 := k6.below hb k6.lt
  have hb7 : Below w.heap.size w v7 := hb6.trans (hb.mono hb6.size)
  clear hb k6 hb6
  have z7 : v7.cell? ⟨w.heap.size, 0, none⟩ = some (.int .u32 (k.1 : Int)) := by
    rw [k7.cell]
    exact va_at (rfF k.1 k.2) (by decide)
  go_wp2_with fail
  refine (hFg.out _).mono ?_
  rintro e _ ⟨rfl, rfl⟩
  go_wp2_with fail
  refine (hEn.out _).mono ?_
  rintro e _ ⟨rfl, rfl⟩
  go_wp2_with fail
  refine (hCo.out _).mono ?_
  rintro e v8 ⟨rfl, hb⟩
  have hb8 : Below w.heap.size w v8 := hb7.trans (hb.mono hb7.size)
  clear hb k7 hb7 z7
  go_wp2_with fail
  refine (hDi.out _).mono ?_
  rintro e _ ⟨rfl, rfl⟩
  go_wp2_with fail
  refine (hLo.out _).mono ?_
  rintro e _ ⟨rfl, rfl⟩
  go_wp2_with fail
  go_ret
  exact ⟨rfl, hb8⟩
set_option maxRecDepth 100000 in
set_option maxHeartbeats 16000000 in
theorem cacheNil_false (k : Rf) (hk : k ≠ rf0) (f : Nat → Nat) (room : Int) (w : World) : Calls Try.prog 7 #[.agg (rfC k), .agg (va 256 (iv .u8 f)), .int .i64 room] w fun e w' => e = .returned (.bool true) ∧ Below w.heap.size w w' := by
  have hG : Hid (∀ w : World, Calls Try.prog 44 #[.pointer none, .agg (rfC k)] w fun e w' => e = .returned (.tuple #[.agg (va 256 (iv .u8 fun _ => 0)), .int .i64 4]) ∧ Below w.heap.size w w') := fun w => by
    have := caGet_nil k w
    rw [if_neg hk] at this
    exact this
  have hCk : Hid (∀ w : World, Calls Try.prog 46 #[.pointer none, .agg (rfC k)] w fun e w' => e = .returned (.int .i64 4) ∧ Below w.heap.size w w') := fun w => by
    have := caCheck_nil k w
    rw [if_neg hk] at this
    exact this
  have heq : ∀ W, (Op.equalIn 10000 48 (.agg (rfC k)) (.agg (rfC rf0))).run Try.prog W = .ok false W := fun W => by
    have := eq_root 9997 k.1 rf0.1 k.2 rf0.2 W
    rw [show decide ((k.1, k.2) = (rf0.1, rf0.2)) = false from decide_eq_false hk] at this
    exact this
  have heq0 : ∀ W, (Op.equalIn 10000 48 (.agg (rfC rf0)) (.agg (rfC rf0))).run Try.prog W = .ok true W := fun W => by
    have := eq_root 9997 rf0.1 rf0.1 rf0.2 rf0.2 W
    rw [decide_eq_true rfl] at this
    exact this
  have heqb : ∀ W, (Op.equalIn 10000 60 (.agg (va 256 (iv .u8 fun _ => 0))) (.agg (va 256 (iv .u8 fun _ => 0)))).run Try.prog W = .ok true W := fun W => by
    have := eq_bk 60 Try.underlying60 (fun _ => 0) (fun _ => 0) W
    rw [decide_eq_true (fun i hi => rfl)] at this
    exact this
  have hz := zero_bk
  have hzr := zero_ref
  have hNw : Hid (∀ w : World, Calls Try.prog 33 #[.pointer none, .pointer none, .int .i64 room] w fun e w' => e = .returned (.tuple #[.pointer none, .int .i64 1]) ∧ w = w') := caNew_nil room
  have hAw : Hid (∀ w : World, Calls Try.prog 34 #[] w fun e w' => e = .returned (.bool true) ∧ Below w.heap.size w w') := awake8_any
  have hPt : Hid (∀ w : World, Calls Try.prog 43 #[.pointer none, .int .u32 (k.1 : Int), .agg (va 256 (iv .u8 f))] w fun e w' => e = .returned (.tuple #[.agg (rfC rf0), .int .i64 4]) ∧ Below w.heap.size w w') := caPut_nil (k.1 : Int) f
  have hHs : Hid (∀ w : World, Calls Try.prog 48 #[.pointer none, .agg (rfC k)] w fun e w' => e = .returned (.bool false) ∧ Below w.heap.size w w') := caHas_nil k
  have hFg : Hid (∀ w : World, Calls Try.prog 40 #[.pointer none, .int .u32 (k.1 : Int)] w fun e w' => e = .returned (.int .i64 0) ∧ w = w') := caForget_nil (k.1 : Int)
  have hEn : Hid (∀ w : World, Calls Try.prog 47 #[.pointer none] w fun e w' => e = .returned (.slice none 0 0) ∧ w = w') := caEntries_nil
  have hCo : Hid (∀ w : World, Calls Try.prog 49 #[.pointer none] w fun e w' => e = .returned (.agg #[.int .i64 0, .int .i64 0, .int .i64 0, .int .i64 0]) ∧ Below w.heap.size w w') := caCounts_nil
  have hDi : Hid (∀ w : World, Calls Try.prog 50 #[.pointer none] w fun e w' => e = .returned (.pointer none) ∧ w = w') := caDisk_nil
  have hLo : Hid (∀ w : World, Calls Try.prog 51 #[.pointer none] w fun e w' => e = .returned (.pointer none) ∧ w = w') := caLog_nil
  clear hk
  have k0 : Blk ((w.alloc (.cells (rfC k) 48)).alloc (.cells (va 256 (iv .u8 f)) 60)) w.heap.size 48 (rfC k) := (Blk.new _ _ _).alloc _
  have l0 : Blk ((w.alloc (.cells (rfC k) 48)).alloc (.cells (va 256 (iv .u8 f)) 60)) (w.heap.size + 1) 60 (va 256 (iv .u8 f)) := Blk.new1 _ _ _ _
  have hb0 : Below w.heap.size w ((w.alloc (.cells (rfC k) 48)).alloc (.cells (va 256 (iv .u8 f)) 60)) := below_new2 _ _ _
  go_enter Try.func7, Try.ntmps7
  go_wp2_with fail
  generalize ((w.alloc (.cells (rfC k) 48)).alloc (.cells (va 256 (iv .u8 f)) 60)) = v0 at *
  refine (hNw.out _).mono ?_
  rintro e _ ⟨rfl, rfl⟩
  go_wp2_with fail
  refine (hAw.out _).mono ?_
  rintro e v1 ⟨rfl, hb⟩
  have k1 := k0.below hb k0.lt
  have l1 := l0.below hb l0.lt
  have hb1 : Below w.heap.size w v1 := hb0.trans (hb.mono hb0.size)
  clear k0 l0 hb0 hb
  go_wp2_with (first
    | (refine wpList_load_rowg (by rfl) 48 _ (by rfl) (w.heap.size) (by rfl) 48 (rfC k) (0, 0) _ (by exact k1) Try.underlying48 (by rfl) (slSizeRef.trans (by rw [rfC_size])) ?_; simp only [Act.put, List.setIfInBounds_toArray, List.set_cons_zero, List.set_cons_succ])
    | fail)
  refine (hG.out _).mono ?_
  rintro e v2 ⟨rfl, hb⟩
  have k2 := k1.below hb k1.lt
  have l2 := l1.below hb l1.lt
  have hb2 : Below w.heap.size w v2 := hb1.trans (hb.mono hb1.size)
  clear k1 l1 hb1 hb
  have y2 := Blk.new v2 60 (va 256 (iv .u8 fun _ => 0))
  have y3 := y2.set (va 256 (iv .u8 fun _ => 0))
  have hb : Below v2.heap.size v2 ((v2.alloc (.cells (va 256 (iv .u8 fun _ => 0)) 60)).setRow v2.heap.size (va 256 (iv .u8 fun _ => 0))) := below_setRow (below_new1 _ _) (Nat.le_refl _) _
  have k3 := k2.below hb k2.lt
  have l3 := l2.below hb l2.lt
  have hb3 : Below w.heap.size w ((v2.alloc (.cells (va 256 (iv .u8 fun _ => 0)) 60)).setRow v2.heap.size (va 256 (iv .u8 fun _ => 0))) := hb2.trans (hb.mono hb2.size)
  clear hb k2 l2 hb2
  go_wp2_with (first
    | (refine wpList_store_row (by rfl) 60 _ _ (by rfl) (v2.heap.size) (va 256 (iv .u8 (fun _ => 0))) (by rfl) (by rfl) 60 _ y2 (sizeBk.trans (by rw [va_size])) (by simp only [va_size]) (iv_one _ _ _) ?_; simp only [Act.put, List.setIfInBounds_toArray, List.set_cons_zero, List.set_cons_succ])
    | (refine wpList_load_rowg (by rfl) 48 _ (by rfl) (w.heap.size) (by rfl) 48 (rfC k) (0, 0) _ (by exact k3) Try.underlying48 (by rfl) (slSizeRef.trans (by rw [rfC_size])) ?_; simp only [Act.put, List.setIfInBounds_toArray, List.set_cons_zero, List.set_cons_succ])
    | fail)
  clear y2
  generalize ((v2.alloc (.cells (va 256 (iv .u8 fun _ => 0)) 60)).setRow v2.heap.size (va 256 (iv .u8 fun _ => 0))) = v3 at *
  generalize v2.heap.size = sy at *
  refine (hCk.out _).mono ?_
  rintro e v4 ⟨rfl, hb⟩
  have y4 := y3.below hb y3.lt
  clear y3
  have k4 := k3.below hb k3.lt
  have l4 := l3.below hb l3.lt
  have hb4 : Below w.heap.size w v4 := hb3.trans (hb.mono hb3.size)
  clear k3 l3 hb3 hb
  have z4 : v4.cell? ⟨w.heap.size, 0, none⟩ = some (.int .u32 (k.1 : Int)) := by
    rw [k4.cell]
    exact va_at (rfF k.1 k.2) (by decide)
  go_wp2_with (first
    | (refine wpList_load_rowg (by rfl) 48 _ (by rfl) (w.heap.size) (by rfl) 48 (rfC k) (0, 0) _ (by exact k4) Try.underlying48 (by rfl) (slSizeRef.trans (by rw [rfC_size])) ?_; simp only [Act.put, List.setIfInBounds_toArray, List.set_cons_zero, List.set_cons_succ])
    | (refine wpList_load_row (by rfl) 60 _ (by rfl) (w.heap.size + 1) (by rfl) 60 (va 256 (iv .u8 f)) (0, 0) _ l4 Try.underlying60 (by rfl) (sizeBk.trans (by rw [va_size])) ?_; simp only [Act.put, List.setIfInBounds_toArray, List.set_cons_zero, List.set_cons_succ])
    | fail)
  refine (hPt.out _).mono ?_
  rintro e v5 ⟨rfl, hb⟩
  have y5 := y4.below hb y4.lt
  clear y4 z4
  have k5 := k4.below hb k4.lt
  have l5 := l4.below hb l4.lt
  have hb5 : Below w.heap.size w v5 := hb4.trans (hb.mono hb4.size)
  clear k4 l4 hb4 hb
  have x5 := Blk.new v5 48 (rfC rf0)
  have x6 := x5.set (rfC rf0)
  have hb : Below v5.heap.size v5 ((v5.alloc (.cells (rfC rf0) 48)).setRow v5.heap.size (rfC rf0)) := below_setRow (below_new1 _ _) (Nat.le_refl _) _
  have k6 := k5.below hb k5.lt
  have y6 := y5.below hb y5.lt
  have hb6 : Below w.heap.size w ((v5.alloc (.cells (rfC rf0) 48)).setRow v5.heap.size (rfC rf0)) := hb5.trans (hb.mono hb5.size)
  clear hb k5 l5 hb5 y5
  go_wp2_with (first
    | (refine wpList_store_row (by rfl) 48 _ _ (by rfl) (v5.heap.size) (rfC rf0) (by rfl) (by rfl) 48 (_) (by exact x5) (slSizeRef.trans (by rw [rfC_size])) (by simp only [rfC_size]) (rfC_all _) ?_; simp only [Act.put, List.setIfInBounds_toArray, List.set_cons_zero, List.set_cons_succ])
    | (refine wpList_load_rowg (by rfl) 48 _ (by rfl) (w.heap.size) (by rfl) 48 (rfC k) (0, 0) _ (by exact k6) Try.underlying48 (by rfl) (slSizeRef.trans (by rw [rfC_size])) ?_; simp only [Act.put, List.setIfInBounds_toArray, List.set_cons_zero, List.set_cons_succ])
    | (refine wpList_load_rowg (by rfl) 48 _ (by rfl) (v5.heap.size) (by rfl) 48 (rfC rf0) (0, 0) _ (by exact x6) Try.underlying48 (by rfl) (slSizeRef.trans (by rw [rfC_size])) ?_; simp only [Act.put, List.setIfInBounds_toArray, List.set_cons_zero, List.set_cons_succ])
    | (refine wpList_load_row (by rfl) 60 _ (by rfl) (sy) (by rfl) 60 (va 256 (iv .u8 (fun _ => 0))) (0, 0) _ y6 Try.underlying60 (by rfl) (sizeBk.trans (by rw [va_size])) ?_; simp only [Act.put, List.setIfInBounds_toArray, List.set_cons_zero, List.set_cons_succ])
    | (refine wpList_load_rowg (by rfl) 60 _ (by rfl) (sy) (by rfl) 60 (va 256 (iv .u8 (fun _ => 0))) (0, 0) _ y6 Try.underlying60 (by rfl) (sizeBk.trans (by rw [va_size])) ?_; simp only [Act.put, List.setIfInBounds_toArray, List.set_cons_zero, List.set_cons_succ])
    | fail)
  clear x5 x6 y6
  generalize ((v5.alloc (.cells (rfC rf0) 48)).setRow v5.heap.size (rfC rf0)) = v6 at *
  refine (hHs.out _).mono ?_
  rintro e v7 ⟨rfl, hb⟩
  have k7 := k6.below hb k6.lt
  have hb7 : Below w.heap.size w v7 := hb6.trans (hb.mono hb6.size)
  clear hb k6 hb6
  have z7 : v7.cell? ⟨w.heap.size, 0, none⟩ = some (.int .u32 (k.1 : Int)) := by
    rw [k7.cell]
    exact va_at (rfF k.1 k.2) (by decide)
  go_wp2_with fail
  refine (hFg.out _).mono ?_
  rintro e _ ⟨rfl, rfl⟩
  go_wp2_with fail
  refine (hEn.out _).mono ?_
  rintro e _ ⟨rfl, rfl⟩
  go_wp2_with fail
  refine (hCo.out _).mono ?_
  rintro e v8 ⟨rfl, hb⟩
  have hb8 : Below w.heap.size w v8 := hb7.trans (hb.mono hb7.size)
  clear hb k7 hb7 z7
  go_wp2_with fail
  refine (hDi.out _).mono ?_
  rintro e _ ⟨rfl, rfl⟩
  go_wp2_with fail
  refine (hLo.out _).mono ?_
  rintro e _ ⟨rfl, rfl⟩
  go_wp2_with fail
  go_ret
  exact ⟨rfl, hb8⟩
theorem cacheNilLaw (k : Rf) (f : Nat → Nat) (room : Int) (w : World) : Calls Try.prog 7 #[.agg (rfC k), .agg (va 256 (iv .u8 f)), .int .i64 room] w fun e w' => e = .returned (.bool true) ∧ Below w.heap.size w w' := by
  by_cases hk : k = rf0
  · exact cacheNil_true k hk f room w
  · exact cacheNil_false k hk f room w
end Go.Proofs.Ytdniigefmlmcdaa
