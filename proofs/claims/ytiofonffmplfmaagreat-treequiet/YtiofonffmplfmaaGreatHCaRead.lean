/- A cache on a quiet disk, without a log: Holds, and a block read raw and held against its reference. -/
import Derived.Test.YtiofonffmplfmaaGreatHCaAll2
import Derived.Deep.DeepCutAuto
import Derived.Deep.Cut
import Derived.Handy

namespace Go.Proofs.YtiofonffmplfmaaGreat
theorem sgLHCaRead : (∀ (α : Type) (a : α) (l r : List α), (a :: l) ++ r = a :: (l ++ r)) ∧ (∀ (α : Type) (l : List α), [] ++ l = l) ∧ (∀ (α : Type) (l : List α), l ++ [] = l) ∧ (∀ (α β : Type) (f : α → Option β) (a : α) (l : List α), (a :: l).filterMap f = match f a with | none => l.filterMap f | some b => b :: l.filterMap f) ∧ (∀ (α β : Type) (f : α → Option β), [].filterMap f = []) ∧ (∀ (α : Type) (l : List α) (i : Nat), l.toArray[i]? = l[i]?) ∧ (∀ (α : Type) (a : α) (l : List α), (a :: l)[0]? = some a) ∧ (∀ (α : Type) (a : α) (l : List α) (i : Nat), (a :: l)[i + 1]? = l[i]?) :=
  ⟨fun _ _ _ _ => List.cons_append, fun _ _ => List.nil_append _, fun _ _ => List.append_nil _, fun _ _ _ _ _ => List.filterMap_cons, fun _ _ _ => List.filterMap_nil, fun _ _ _ => List.getElem?_toArray, fun _ _ _ => List.getElem?_cons_zero, fun _ _ _ _ => List.getElem?_cons_succ⟩
theorem sgPHCaRead : (∀ (α : Type) (l : List α) (i : Nat) (a : α), l.toArray.setIfInBounds i a = (l.set i a).toArray) ∧ (∀ (α : Type) (a b : α) (l : List α), (a :: l).set 0 b = b :: l) ∧ (∀ (α : Type) (a b : α) (l : List α) (i : Nat), (a :: l).set (i + 1) b = a :: l.set i b) :=
  ⟨fun _ _ _ _ => List.setIfInBounds_toArray _ _ _, fun _ _ _ _ => List.set_cons_zero, fun _ _ _ _ _ => List.set_cons_succ⟩
end Go.Proofs.YtiofonffmplfmaaGreat
namespace Go.Proofs.YtiofonffmplfmaaGreat
open Go Go.RowKit
set_option linter.unusedSimpArgs false
set_option linter.unusedVariables false

theorem kyields_load_at {P : Program} {ops : Array Oper} {S : World → Prop} {op : Oper} {a : Act} (hw : Region.wanted op (yielded ops a.tmps) = true) (ty : TypeId) (x : Operand) (ho : op.op = .load ty x)
    (b o n : Nat) (f : Nat → Value) (hx : a.eval x = .pointer (some ⟨b, o, none⟩)) (d : TypeDesc) (hS : ∀ w, S w → w.rangeAt b o ((List.range n).map f))
    (hu : P.underlying ty = some d) (hd : d.isRow = true) (hi : (P.info? ty).map (·.size) = some n) : YieldsIf P ops S op (.agg (va n f)) a :=
  yieldsIf_load_mid hw ty x ho b o hx _ d hS hu hd (hi.trans (by simp))
theorem yields_eql {P : Program} {ops : Array Oper} {S : World → Prop} {op : Oper} {a : Act} (hw : Region.wanted op (yielded ops a.tmps) = true) (t t2 : TypeId) (x y : Operand) (ho : op.op = .binOp .eql t x y t2) (vx vy : Array Value) (b : Bool)
    (hx : a.eval x = .agg vx) (hy : a.eval y = .agg vy) (hG : P.eqGuardType P.depth t = false) (he : ∀ W : World, (Op.equalIn 10000 t (.agg vx) (.agg vy)).run P W = .ok b W) : YieldsIf P ops S op (.bool b) a :=
  .inl ⟨hw, fun w _ => by
    unfold execOp
    simp only [ho, hx, hy]
    have hg : (eqGuard BinOp.eql t x y (.agg vx) (.agg vy)).run P w = .ok () w := by
      simp [eqGuard, hG]
    have hb : (binOp BinOp.eql t (.agg vx) (.agg vy)).run P w = .ok (.bool b) w := by
      unfold binOp
      simp [Op.equal, Op.maxDepth, he]
    simp [hg, hb]⟩
theorem ref_rangeS {w : World} {b : Nat} {k : Rf} (h : Blk w b 43 (rfC k)) : w.rangeAt b 1 ((List.range 32).map (iv .u8 (dF k.2))) := by
  have := Blk.range (n := 33) (f := rfF k.1 k.2) h 1 32 (by decide)
  rw [show ((List.range 32).map fun j => rfF k.1 k.2 (1 + j)) = (List.range 32).map (iv .u8 (dF k.2)) from List.map_congr_left fun j hj => ?_] at this
  · exact this
  · unfold rfF iv
    rw [if_neg (by omega), show 1 + j - 1 = j by omega]
set_option maxRecDepth 100000 in
set_option maxHeartbeats 4000000 in
theorem holds_nil (k : Rf) (f : Nat → Nat) (w : World) : Calls Tryz.prog 74 #[.pointer none, .agg (rfC k), .agg (va 256 (iv .u8 f))] w fun x w' => x = .returned (.bool (decide (dgB f = k.2))) ∧ Below w.heap.size w w' := by
  have hb1 : Below w.heap.size w ((w.alloc (.cells (rfC k) 43)).alloc (.cells (va 256 (iv .u8 f)) 52)) := below_new2 _ _ _
  have r1 : Blk ((w.alloc (.cells (rfC k) 43)).alloc (.cells (va 256 (iv .u8 f)) 52)) w.heap.size 43 (rfC k) := (Blk.new _ _ _).alloc _
  have k1 : Blk ((w.alloc (.cells (rfC k) 43)).alloc (.cells (va 256 (iv .u8 f)) 52)) (w.heap.size + 1) 52 (va 256 (iv .u8 f)) := Blk.new1 _ _ _ _
  have hS : Blk ((w.alloc (.cells (rfC k) 43)).alloc (.cells (va 256 (iv .u8 f)) 52)).drew w.heap.size 43 (rfC k) ∧ Blk ((w.alloc (.cells (rfC k) 43)).alloc (.cells (va 256 (iv .u8 f)) 52)).drew (w.heap.size + 1) 52 (va 256 (iv .u8 f)) := ⟨r1, k1⟩
  have heq : ∀ W : World, (Op.equalIn 10000 41 (.agg (va 32 (iv .u8 (dF (dgB f))))) (.agg (va 32 (iv .u8 (dF k.2))))).run Tryz.prog W = .ok (decide (dgB f = k.2)) W := fun W => eq_dig 41 Tryz.underlying41 (dgB f) k.2 W
  have HB1 : Hid (Below w.heap.size w ((w.alloc (.cells (rfC k) 43)).alloc (.cells (va 256 (iv .u8 f)) 52)).drew) := hb1.drew
  have hSum : Hid (∀ w : World, Calls Tryz.prog 88 #[.pointer none, .agg (va 256 (iv .u8 f))] w fun e w' => e = .returned (.agg (va 32 (iv .u8 (dF (dgB f))))) ∧ Below w.heap.size w w') := nodeSum_nil f
  generalize dgB f = dg at *
  generalize decide (dg = k.2) = y at *
  clear r1 k1 hb1
  go_enter Tryz.func74, Tryz.ntmps74
  go_wp2_with fail
  generalize ((w.alloc (.cells (rfC k) 43)).alloc (.cells (va 256 (iv .u8 f)) 52)) = w1 at *
  refine wp_region_plan (fun W => Blk W w.heap.size 43 (rfC k) ∧ Blk W (w.heap.size + 1) 52 (va 256 (iv .u8 f))) (.yield [0] 1 (.yield [] 3 (.yield [] 4 (.force [] 2 (.yield [] 5 (.fin [6])))))) (by kernel_rfl) (by kernel_rfl) hS (plan_yield ?_)
  simp only [sgLHCaRead]
  go_wp2_with fail
  refine ⟨rfl, _, .agg (va 256 (iv .u8 f)), rfl, kyields_load (by rfl) 52 _ (by rfl) (w.heap.size + 1) 256 (iv .u8 f) (by rfl) _ 52 (fun W hW => hW.2) Tryz.underlying52 rfl sizeBk, plan_yield ?_⟩
  simp only [Act.put, sgPHCaRead]
  simp only [sgLHCaRead]
  go_wp2_with fail
  refine ⟨rfl, _, .pointer (some ⟨w.heap.size, 1, none⟩), rfl, Or.inl ⟨by rfl, fun W hW => by go_simp⟩, plan_yield ?_⟩
  simp only [Act.put, sgPHCaRead]
  simp only [sgLHCaRead]
  go_wp2_with fail
  refine ⟨rfl, _, .agg (va 32 (iv .u8 (dF k.2))), rfl, kyields_load_at (by rfl) 41 _ (by rfl) w.heap.size 1 32 (iv .u8 (dF k.2)) (by rfl) _ (fun W hW => ref_rangeS hW.1) Tryz.underlying41 rfl sizeSm, plan_force ?_⟩
  simp only [Act.put, sgPHCaRead]
  simp only [sgLHCaRead]
  go_wp2_with fail
  refine (hSum.out _).mono ?_
  rintro x w2 ⟨rfl, hb2⟩
  go_wp2_with fail
  refine ⟨rfl, ⟨hS.1.below hb2 hS.1.lt, hS.2.below hb2 hS.2.lt⟩, plan_yield ?_⟩
  simp only [sgLHCaRead]
  go_wp2_with fail
  refine ⟨rfl, _, .bool y, rfl, yields_eql (by rfl) 41 _ _ _ (by rfl) (va 32 (iv .u8 (dF dg))) (va 32 (iv .u8 (dF k.2))) y (by rfl) (by rfl) Tryz.eqGuardType41 heq, plan_fin ?_⟩
  simp only [Act.put, sgPHCaRead]
  simp only [sgLHCaRead]
  go_wp2_with fail
  refine ⟨rfl, ?_⟩
  go_wp2_with fail
  go_ret
  exact ⟨rfl, HB1.out.trans (hb2.mono HB1.out.size)⟩
section
variable {c m B g N kk lg : Nat} {F : Nat → Nat} {q : QD} {lp o n : Option Addr} {room h r bd cn : Int}
set_option maxRecDepth 100000 in
set_option maxHeartbeats 4000000 in
theorem mayLie_zero (hN0 : 0 < N) (hN : N ≤ 8192) (w : World) (hg : Blk w c 133 (caC (some ⟨g, 0, none⟩) none room m o n h r bd cn)) (hd : DiskQ w B g N F kk lg q) : Calls Tryz.prog 72 #[.pointer (some ⟨c, 0, none⟩), .int .u32 0] w fun e w' => e = .returned (.bool false) ∧ w = w' := by
  have c0 : w.cell? ⟨c, 0, none⟩ = some (.pointer (some ⟨g, 0, none⟩)) := by rw [hg.cell]; rfl
  have HB : Hid (Calls Tryz.prog 86 #[.pointer (some ⟨g, 0, none⟩)] w fun e w' => e = .returned (.int .i64 (N : Int)) ∧ w = w') := blocks_q w hd
  clear hg hd
  go_enter Tryz.func72, Tryz.ntmps72
  go_wp2_with fail
  go_ret
  exact ⟨rfl, rfl⟩
set_option maxRecDepth 100000 in
set_option maxHeartbeats 4000000 in
theorem mayLie_big (a : Nat) (ha : N ≤ a) (ha2 : a < 4294967296) (hN0 : 0 < N) (hN : N ≤ 8192) (w : World) (hg : Blk w c 133 (caC (some ⟨g, 0, none⟩) none room m o n h r bd cn)) (hd : DiskQ w B g N F kk lg q) : Calls Tryz.prog 72 #[.pointer (some ⟨c, 0, none⟩), .int .u32 (a : Int)] w fun e w' => e = .returned (.bool false) ∧ w = w' := by
  have c0 : w.cell? ⟨c, 0, none⟩ = some (.pointer (some ⟨g, 0, none⟩)) := by rw [hg.cell]; rfl
  have HB : Hid (Calls Tryz.prog 86 #[.pointer (some ⟨g, 0, none⟩)] w fun e w' => e = .returned (.int .i64 (N : Int)) ∧ w = w') := blocks_q w hd
  have h0 : decide ((0 : Int) < (a : Int)) = true := decide_eq_true (by omega)
  have h00 : (0 : Int) < (a : Int) := by omega
  have h1 : ¬ (a : Int) < (N : Int) := by omega
  have h2 : (N : Int) % 4294967296 = (N : Int) := by omega
  have d1 : decide ((a : Int) < (N : Int)) = false := decide_eq_false h1
  have d2 : decide (a < N) = false := decide_eq_false (by omega)
  clear hg hd
  go_enter Tryz.func72, Tryz.ntmps72
  go_wp2_with fail
  refine HB.out.mono ?_
  rintro e _ ⟨rfl, rfl⟩
  go_wp2_with fail
  go_ret
  exact ⟨rfl, rfl⟩
set_option maxRecDepth 100000 in
set_option maxHeartbeats 4000000 in
theorem read_noBlock (k : Rf) (hML : ∀ w : World, Blk w c 133 (caC (some ⟨g, 0, none⟩) none room m o n h r bd cn) → DiskQ w B g N F kk lg q → Calls Tryz.prog 72 #[.pointer (some ⟨c, 0, none⟩), .int .u32 (k.1 : Int)] w fun e w' => e = .returned (.bool false) ∧ w = w') (w : World) (hg : Blk w c 133 (caC (some ⟨g, 0, none⟩) none room m o n h r bd cn)) (hd : DiskQ w B g N F kk lg q) : Calls Tryz.prog 54 #[.pointer (some ⟨c, 0, none⟩), .agg (rfC k)] w fun x w' => x = .returned (.tuple #[.agg (va 256 (iv .u8 fun _ => 0)), .int .i64 2]) ∧ Below w.heap.size w w' := by
  have hz := zero_bk
  have hb1 : Below w.heap.size w ((w.alloc (.cells (rfC k) 43)).alloc (.cells (va 256 (iv .u8 fun _ => 0)) 52)) := below_new2 _ _ _
  have r1 : Blk ((w.alloc (.cells (rfC k) 43)).alloc (.cells (va 256 (iv .u8 fun _ => 0)) 52)) w.heap.size 43 (rfC k) := (Blk.new _ _ _).alloc _
  have k1 : Blk ((w.alloc (.cells (rfC k) 43)).alloc (.cells (va 256 (iv .u8 fun _ => 0)) 52)) (w.heap.size + 1) 52 (va 256 (iv .u8 fun _ => 0)) := Blk.new1 _ _ _ _
  have z1 : ((w.alloc (.cells (rfC k) 43)).alloc (.cells (va 256 (iv .u8 fun _ => 0)) 52)).cell? ⟨w.heap.size, 0, none⟩ = some (.int .u32 (k.1 : Int)) := (r1.cell 0).trans (va_at (rfF k.1 k.2) (by decide))
  have hM : Hid (Calls Tryz.prog 72 #[.pointer (some ⟨c, 0, none⟩), .int .u32 (k.1 : Int)] ((w.alloc (.cells (rfC k) 43)).alloc (.cells (va 256 (iv .u8 fun _ => 0)) 52)) fun e w' => e = .returned (.bool false) ∧ ((w.alloc (.cells (rfC k) 43)).alloc (.cells (va 256 (iv .u8 fun _ => 0)) 52)) = w') := hML _ (hg.below hb1 hg.lt) (hd.below hb1)
  clear hML hg hd r1
  go_enter Tryz.func54, Tryz.ntmps54
  go_wp2_with fail
  generalize ((w.alloc (.cells (rfC k) 43)).alloc (.cells (va 256 (iv .u8 fun _ => 0)) 52)) = w1 at *
  refine hM.out.mono ?_
  rintro e _ ⟨rfl, rfl⟩
  go_wp2_with (first
    | (refine wpList_store_row (by rfl) 52 _ _ (by rfl) (w.heap.size + 1) (va 256 (iv .u8 (fun _ => 0))) (by rfl) (by rfl) 52 _ k1 (sizeBk.trans (by rw [va_size])) (by simp only [va_size]) (iv_one _ _ _) ?_; simp only [Act.put, sgPHCaRead])
    | fail)
  try simp only [Exit.inBlock, Exit.then]
  refine bodyPost_ret (results_row2 Tryz.results54 _ _ (w.heap.size + 1) 52 (va 256 (iv .u8 (fun _ => 0))) (0, 0) _ rfl ((k1.set _)) Tryz.underlying52 rfl (sizeBk.trans (by rw [va_size]))) rfl ?_
  exact ⟨rfl, below_setRow hb1 (by omega) _⟩
set_option maxRecDepth 100000 in
set_option maxHeartbeats 4000000 in
theorem read_good {cv : Value} (k : Rf) (hk0 : k.1 ≠ 0) (hkN : k.1 < N) (hN : N ≤ 8192) (hkk : kk < 549755813888) (hlg : lg < 137438953472) (hq : QuietC cv false q kk) (f : Nat → Nat) (hf : f = (fun j => F (k.1 * 256 + j))) (hdg : dgB f = k.2) (hr : 0 ≤ r ∧ r < 4611686018427387904) (hbd : 0 ≤ bd ∧ bd < 4611686018427387904) (w : World) (hB : B ≤ w.heap.size) (hg : Blk w c 133 (caC (some ⟨g, 0, none⟩) none room m o n h r bd cn)) (hd : DiskQ w B g N F kk lg q) (hnc : ¬ foot g N q c) : Calls Tryz.prog 54 #[.pointer (some ⟨c, 0, none⟩), .agg (rfC k)] w fun x w' => x = .returned (.tuple #[.agg (va 256 (iv .u8 f)), .int .i64 0]) ∧ ∃ q', DiskQ w' B g N F (kk + 1) (lg + 1) q' ∧ QuietC cv false q' (kk + 1) ∧ Blk w' c 133 (caC (some ⟨g, 0, none⟩) none room m o n h (r + 1) bd cn) ∧ Turns (fun z => foot g N q z ∨ z = c) w w' ∧ ∀ z, foot g N q' z → foot g N q z ∨ w.heap.size ≤ z := by
  have hz := zero_bk
  have hML : Hid (∀ w : World, Blk w c 133 (caC (some ⟨g, 0, none⟩) none room m o n h r bd cn) → DiskQ w B g N F kk lg q → Calls Tryz.prog 72 #[.pointer (some ⟨c, 0, none⟩), .int .u32 (k.1 : Int)] w fun e w' => e = .returned (.bool true) ∧ w = w') := fun w h1 h2 => mayLie_ok k.1 N hk0 hkN hN w h1 (blocks_q w h2)
  have hRd : Hid (∀ w : World, B ≤ w.heap.size → DiskQ w B g N F kk lg q → Calls Tryz.prog 73 #[.pointer (some ⟨g, 0, none⟩), .int .i64 (k.1 : Int)] w fun x w' => x = .returned (.tuple #[.agg (va 256 (iv .u8 f)), .int .i64 0]) ∧ ∃ q', DiskQ w' B g N F (kk + 1) (lg + 1) q' ∧ QuietC cv false q' (kk + 1) ∧ Moved g N q q' w w') := fun w h1 h2 => by
    rw [hf]
    exact read_q hq k.1 hkN hN hkk hlg w h1 h2
  have hHo : Hid (∀ w : World, Calls Tryz.prog 74 #[.pointer none, .agg (rfC k), .agg (va 256 (iv .u8 f))] w fun x w' => x = .returned (.bool true) ∧ Below w.heap.size w w') := fun w => by
    have := holds_nil k f w
    rw [decide_eq_true hdg] at this
    exact this
  have hb1 : Below w.heap.size w ((w.alloc (.cells (rfC k) 43)).alloc (.cells (va 256 (iv .u8 fun _ => 0)) 52)) := below_new2 _ _ _
  have r1 : Blk ((w.alloc (.cells (rfC k) 43)).alloc (.cells (va 256 (iv .u8 fun _ => 0)) 52)) w.heap.size 43 (rfC k) := (Blk.new _ _ _).alloc _
  have k1 : Blk ((w.alloc (.cells (rfC k) 43)).alloc (.cells (va 256 (iv .u8 fun _ => 0)) 52)) (w.heap.size + 1) 52 (va 256 (iv .u8 fun _ => 0)) := Blk.new1 _ _ _ _
  have g1 : Blk ((w.alloc (.cells (rfC k) 43)).alloc (.cells (va 256 (iv .u8 fun _ => 0)) 52)) c 133 (caC (some ⟨g, 0, none⟩) none room m o n h r bd cn) := hg.below hb1 hg.lt
  have HD1 : Hid (DiskQ ((w.alloc (.cells (rfC k) 43)).alloc (.cells (va 256 (iv .u8 fun _ => 0)) 52)) B g N F kk lg q) := hd.below hb1
  have z1 : ((w.alloc (.cells (rfC k) 43)).alloc (.cells (va 256 (iv .u8 fun _ => 0)) 52)).cell? ⟨w.heap.size, 0, none⟩ = some (.int .u32 (k.1 : Int)) := (r1.cell 0).trans (va_at (rfF k.1 k.2) (by decide))
  have HLO : Hid (∀ z, foot g N q z → z < w.heap.size) := fun z hz => (hd.foots z hz).2
  have HNC : Hid (¬ foot g N q c) := hnc
  have HCL : Hid (c < w.heap.size) := hg.lt
  have HS1 : Hid (w.heap.size + 2 ≤ ((w.alloc (.cells (rfC k) 43)).alloc (.cells (va 256 (iv .u8 fun _ => 0)) 52)).heap.size) := by
    show _ ≤ _
    simp
  have HB1 : Hid (B ≤ w.heap.size) := hB
  have haU : (k.1 : Int) < 8192 := by omega
  have hwr : IntKind.i64.wrap (k.1 : Int) = (k.1 : Int) := by
    rw [IntKind.wrap_i64]
    omega
  obtain ⟨hr0, hr1⟩ := hr
  obtain ⟨hb0, hb2⟩ := hbd
  clear hg hd hk0 hkN hN hkk hlg hq hf hdg hB hnc
  go_enter Tryz.func54, Tryz.ntmps54
  go_wp2_with fail
  generalize ((w.alloc (.cells (rfC k) 43)).alloc (.cells (va 256 (iv .u8 fun _ => 0)) 52)) = w1 at *
  refine (hML.out _ g1 HD1.out).mono ?_
  rintro x _ ⟨rfl, rfl⟩
  go_wp2_with fail
  go_cut [6, 7] (fun v6 v7 wx => v7 = .int .i64 0 ∧ ∃ x q', v6 = .pointer (some ⟨x, 0, none⟩) ∧ w.heap.size + 2 ≤ x ∧ Blk wx x 52 (va 256 (iv .u8 f)) ∧ Blk wx w.heap.size 43 (rfC k) ∧ Blk wx (w.heap.size + 1) 52 (va 256 (iv .u8 fun _ => 0)) ∧ Blk wx c 133 (caC (some ⟨g, 0, none⟩) none room m o n h r bd cn) ∧ DiskQ wx B g N F (kk + 1) (lg + 1) q' ∧ QuietC cv false q' (kk + 1) ∧ Turns (foot g N q) w wx ∧ (∀ z, foot g N q' z → foot g N q z ∨ (w.heap.size + 2 ≤ z ∧ z ≠ x)))
  case first =>
    have hS0 : Blk w1.drew c 133 (caC (some ⟨g, 0, none⟩) none room m o n h r bd cn) ∧ Blk w1.drew w.heap.size 43 (rfC k) := ⟨g1, r1⟩
    have kd : Blk w1.drew (w.heap.size + 1) 52 (va 256 (iv .u8 fun _ => 0)) := k1
    have HDd : Hid (DiskQ w1.drew B g N F kk lg q) := HD1.out.below (Below.refl _ _).drew
    have HTd : Hid (Turns (foot g N q) w w1.drew) := .of_below hb1.drew
    have HSZ : Hid (w.heap.size + 2 ≤ w1.drew.heap.size) := HS1.out
    have HBW : Hid (B ≤ w1.drew.heap.size) := Nat.le_trans HB1.out (Nat.le_trans (Nat.le_add_right _ 2) HS1.out)
    clear hb1 r1 k1 g1 z1 HD1
    refine wp_region_plan (fun W => Blk W c 133 (caC (some ⟨g, 0, none⟩) none room m o n h r bd cn) ∧ Blk W w.heap.size 43 (rfC k)) (.yield [0] 1 (.yield [] 2 (.yield [] 3 (.yield [] 4 (.yield [] 5 (.yield [] 6 (.fork 7 11 (.force [8, 9, 10] 11 (.force [] 12 (.fin [13]))) (.force [] 7 (.yield [8] 9 (.yield [] 10 (.force [] 12 (.fin [13])))))))))))) (by kernel_rfl) (by kernel_rfl) hS0 (plan_yield ?_)
    generalize w1.drew = wd at *
    simp only [sgLHCaRead]
    go_wp2_with fail
    refine ⟨rfl, _, .pointer (some ⟨c, 0, none⟩), rfl, Or.inl ⟨by rfl, fun W hW => by go_simp⟩, plan_yield ?_⟩
    simp only [Act.put, sgPHCaRead]
    simp only [sgLHCaRead]
    go_wp2_with fail
    refine ⟨rfl, _, .pointer (some ⟨c, 0, none⟩), rfl, Or.inl ⟨by rfl, fun W hW => by go_simp⟩, plan_yield ?_⟩
    simp only [Act.put, sgPHCaRead]
    simp only [sgLHCaRead]
    go_wp2_with fail
    refine ⟨rfl, _, .pointer (some ⟨g, 0, none⟩), rfl, Or.inl ⟨by rfl, fun W hW => by have hW1 : W.cell? ⟨c, 0, none⟩ = some (.pointer (some ⟨g, 0, none⟩)) := (hW.1.cell 0).trans rfl; go_simp⟩, plan_yield ?_⟩
    simp only [Act.put, sgPHCaRead]
    simp only [sgLHCaRead]
    go_wp2_with fail
    refine ⟨rfl, _, .pointer (some ⟨w.heap.size, 0, none⟩), rfl, Or.inl ⟨by rfl, fun W hW => by go_simp⟩, plan_yield ?_⟩
    simp only [Act.put, sgPHCaRead]
    simp only [sgLHCaRead]
    go_wp2_with fail
    refine ⟨rfl, _, .int .u32 (k.1 : Int), rfl, Or.inl ⟨by rfl, fun W hW => by have hW1 : W.cell? ⟨w.heap.size, 0, none⟩ = some (.int .u32 (k.1 : Int)) := (hW.2.cell 0).trans (va_at (rfF k.1 k.2) (by decide)); go_simp⟩, plan_yield ?_⟩
    simp only [Act.put, sgPHCaRead]
    simp only [sgLHCaRead]
    go_wp2_with fail
    refine ⟨rfl, _, .int .i64 (k.1 : Int), rfl, Or.inl ⟨by rfl, fun W hW => by go_simp⟩, plan_fork ?_ ?_⟩
    simp only [Act.put, sgPHCaRead]
    · simp only [sgLHCaRead]
      go_wp2_with fail
      refine (hRd.out _ HBW.out HDd.out).mono ?_
      rintro x w2 ⟨rfl, q2, hd2, hq2, hm2⟩
      have s2c := hm2.1.blk hS0.1 HNC.out
      have s2r := hm2.1.blk hS0.2 (fun z => by have := HLO.out _ z; omega)
      have k2 : Blk w2 (w.heap.size + 1) 52 (va 256 (iv .u8 fun _ => 0)) := hm2.1.blk kd (fun z => by have := HLO.out _ z; omega)
      go_wp2_with fail
      refine ⟨rfl, ⟨s2c, s2r⟩, plan_force ?_⟩
      simp only [sgLHCaRead]
      have q0 := Blk.new w2 52 (va 256 (iv .u8 fun _ => 0))
      go_wp2_with fail
      refine ⟨rfl, ⟨s2c.alloc _, s2r.alloc _⟩, plan_force ?_⟩
      simp only [sgLHCaRead]
      refine wpList_store_row (by rfl) 52 _ _ (by rfl) (w2.heap.size) (va 256 (iv .u8 f)) (by rfl) (by rfl) 52 _ q0 (sizeBk.trans (by rw [va_size])) (by rw [va_size, va_size]) (iv_one _ _ _) ?_
      simp only [Act.put, sgPHCaRead]
      go_wp2_with fail
      refine ⟨rfl, ⟨(s2c.alloc _).other _ (Nat.ne_of_lt s2c.lt), (s2r.alloc _).other _ (Nat.ne_of_lt s2r.lt)⟩, plan_fin ?_⟩
      simp only [sgLHCaRead]
      go_wp2_with fail
      refine ⟨rfl, ?_⟩
      go_wp2_with fail
      go_meet
      have hsz := HSZ.out
      have hs2 := hm2.1.size
      have hdx : DiskQ ((w2.alloc (.cells (va 256 (iv .u8 fun _ => 0)) 52)).setRow w2.heap.size (va 256 (iv .u8 f))) B g N F (kk + 1) (lg + 1) q2 := (hd2.below (below_new1 _ _)).kept fun z hz => setRow_other _ _ z _ (fun e => by have := (hd2.foots z hz).2; omega)
      exact ⟨rfl, w2.heap.size, q2, rfl, by omega, q0.set _, (s2r.alloc _).other _ (Nat.ne_of_lt s2r.lt), (k2.alloc _).other _ (Nat.ne_of_lt k2.lt), (s2c.alloc _).other _ (Nat.ne_of_lt s2c.lt), hdx, hq2, ((HTd.out.trans hm2.1 fun z hz => .inl hz).alloc _).laid (by omega) _, fun z hz => by
        rcases hm2.2 z hz with u | u
        · exact .inl u
        · exact .inr ⟨by omega, by have := (hd2.foots z hz).2; omega⟩⟩
    · simp only [sgLHCaRead]
      have q0 := Blk.new wd 52 (va 256 (iv .u8 fun _ => 0))
      go_wp2_with fail
      refine ⟨rfl, ⟨hS0.1.alloc _, hS0.2.alloc _⟩, plan_force ?_⟩
      simp only [sgLHCaRead]
      go_wp2_with fail
      refine (hRd.out _ (Nat.le_trans HBW.out (by simp)) (HDd.out.below (below_new1 _ _))).mono ?_
      rintro x w2 ⟨rfl, q2, hd2, hq2, hm2⟩
      have s2c := hm2.1.blk (hS0.1.alloc _) HNC.out
      have s2r := hm2.1.blk (hS0.2.alloc _) (fun z => by have := HLO.out _ z; omega)
      have k2 : Blk w2 (w.heap.size + 1) 52 (va 256 (iv .u8 fun _ => 0)) := hm2.1.blk (kd.alloc _) (fun z => by have := HLO.out _ z; omega)
      have x2 : Blk w2 wd.heap.size 52 (va 256 (iv .u8 fun _ => 0)) := hm2.1.blk q0 (fun z => by have := HLO.out _ z; have := HSZ.out; omega)
      go_wp2_with fail
      refine ⟨rfl, ⟨s2c, s2r⟩, plan_yield ?_⟩
      simp only [sgLHCaRead]
      go_wp2_with fail
      refine ⟨rfl, _, .agg (va 256 (iv .u8 f)), rfl, Or.inl ⟨by rfl, fun W hW => by go_simp⟩, plan_yield ?_⟩
      simp only [Act.put, sgPHCaRead]
      simp only [sgLHCaRead]
      go_wp2_with fail
      refine ⟨rfl, _, .int .i64 0, rfl, Or.inl ⟨by rfl, fun W hW => by go_simp⟩, plan_force ?_⟩
      simp only [Act.put, sgPHCaRead]
      simp only [sgLHCaRead]
      refine wpList_store_row (by rfl) 52 _ _ (by rfl) (wd.heap.size) (va 256 (iv .u8 f)) (by rfl) (by rfl) 52 _ x2 (sizeBk.trans (by rw [va_size])) (by rw [va_size, va_size]) (iv_one _ _ _) ?_
      simp only [Act.put, sgPHCaRead]
      go_wp2_with fail
      refine ⟨rfl, ⟨s2c.other _ (Nat.ne_of_lt hS0.1.lt), s2r.other _ (Nat.ne_of_lt hS0.2.lt)⟩, plan_fin ?_⟩
      simp only [sgLHCaRead]
      go_wp2_with fail
      refine ⟨rfl, ?_⟩
      go_wp2_with fail
      go_meet
      have hsz := HSZ.out
      have hnx : ¬ foot g N q2 wd.heap.size := fun z => by
        rcases hm2.2 _ z with u | u
        · have := HLO.out _ u
          omega
        · simp at u
          omega
      have hdx : DiskQ (w2.setRow wd.heap.size (va 256 (iv .u8 f))) B g N F (kk + 1) (lg + 1) q2 := hd2.kept fun z hz => setRow_other _ _ z _ (fun e => hnx (e ▸ hz))
      exact ⟨rfl, wd.heap.size, q2, rfl, by omega, x2.set _, s2r.other _ (Nat.ne_of_lt hS0.2.lt), k2.other _ (Nat.ne_of_lt kd.lt), s2c.other _ (Nat.ne_of_lt hS0.1.lt), hdx, hq2, ((HTd.out.alloc _).trans hm2.1 fun z hz => .inl hz).laid (by omega) _, fun z hz => by
        rcases hm2.2 z hz with u | u
        · exact .inl u
        · simp at u
          exact .inr ⟨by omega, by omega⟩⟩
  case rest =>
    obtain ⟨rfl, x, q3, rfl, hx, x3, r3, k3, g3, hd3, hq3, ht3, hf3⟩ := hcut
    rename World => w3
    have hcl := HCL.out
    have HDX : Hid (DiskQ w3 B g N F (kk + 1) (lg + 1) q3) := hd3
    have HQX : Hid (QuietC cv false q3 (kk + 1)) := hq3
    have HNC3 : Hid (¬ foot g N q3 c) := fun z => by
      rcases hf3 c z with u | u
      · exact HNC.out u
      · omega
    have HF3 : Hid (∀ z, foot g N q3 z → foot g N q z ∨ (w.heap.size + 2 ≤ z ∧ z ≠ x)) := hf3
    have c7 : w3.cell? ⟨c, 7, none⟩ = some (.int .i64 r) := by
      rw [g3.cell]
      rfl
    have f7 : w3.frozen? ⟨c, 7, none⟩ = false := g3.frozen 7
    have g4 : Blk (w3.setCell ⟨c, 7, none⟩ (.int .i64 (r + 1))) c 133 (caC (some ⟨g, 0, none⟩) none room m o n h (r + 1) bd cn) := g3.put 7 _
    have x4 : Blk (w3.setCell ⟨c, 7, none⟩ (.int .i64 (r + 1))) x 52 (va 256 (iv .u8 f)) := blk_setNo x3 (by omega)
    have r4 : Blk (w3.setCell ⟨c, 7, none⟩ (.int .i64 (r + 1))) w.heap.size 43 (rfC k) := blk_setNo r3 (by omega)
    have k4 : Blk (w3.setCell ⟨c, 7, none⟩ (.int .i64 (r + 1))) (w.heap.size + 1) 52 (va 256 (iv .u8 fun _ => 0)) := blk_setNo k3 (by omega)
    have HD4 : Hid (DiskQ (w3.setCell ⟨c, 7, none⟩ (.int .i64 (r + 1))) B g N F (kk + 1) (lg + 1) q3) := HDX.out.kept fun z hz => Deep.blk_setCell_other w3 ⟨c, 7, none⟩ _ z fun e => HNC3.out ((show z = c from e) ▸ hz)
    have HT4 : Hid (Turns (fun z => foot g N q z ∨ z = c) w (w3.setCell ⟨c, 7, none⟩ (.int .i64 (r + 1)))) := turns_set (ht3.mono fun z hz => .inl hz) (.inr rfl)
    clear hcl hd3 hq3 hf3 g3 x3 r3 k3 ht3 r1 k1 g1 z1 HD1 hb1 HDX
    go_wp2_with fail
    have hS4 : Blk (w3.setCell ⟨c, 7, none⟩ (.int .i64 (r + 1))).drew c 133 (caC (some ⟨g, 0, none⟩) none room m o n h (r + 1) bd cn) ∧ Blk (w3.setCell ⟨c, 7, none⟩ (.int .i64 (r + 1))).drew w.heap.size 43 (rfC k) ∧ Blk (w3.setCell ⟨c, 7, none⟩ (.int .i64 (r + 1))).drew x 52 (va 256 (iv .u8 f)) := ⟨g4, r4, x4⟩
    have k4d : Blk (w3.setCell ⟨c, 7, none⟩ (.int .i64 (r + 1))).drew (w.heap.size + 1) 52 (va 256 (iv .u8 fun _ => 0)) := k4
    have HD4d : Hid (DiskQ (w3.setCell ⟨c, 7, none⟩ (.int .i64 (r + 1))).drew B g N F (kk + 1) (lg + 1) q3) := HD4.out.below (Below.refl _ _).drew
    have HT4d : Hid (Turns (fun z => foot g N q z ∨ z = c) w (w3.setCell ⟨c, 7, none⟩ (.int .i64 (r + 1))).drew) := HT4.out.drew
    clear c7 f7 g4 x4 r4 k4 HD4 HT4
    generalize (w3.setCell ⟨c, 7, none⟩ (.int .i64 (r + 1))) = w4 at *
    refine wp_region_plan (fun W => Blk W c 133 (caC (some ⟨g, 0, none⟩) none room m o n h (r + 1) bd cn) ∧ Blk W w.heap.size 43 (rfC k) ∧ Blk W x 52 (va 256 (iv .u8 f))) (.yield [0] 1 (.yield [] 2 (.yield [] 3 (.yield [] 4 (.yield [] 5 (.force [] 6 (.fin [7]))))))) (by kernel_rfl) (by kernel_rfl) hS4 (plan_yield ?_)
    simp only [sgLHCaRead]
    go_wp2_with fail
    refine ⟨rfl, _, .pointer (some ⟨c, 0, none⟩), rfl, Or.inl ⟨by rfl, fun W hW => by go_simp⟩, plan_yield ?_⟩
    simp only [Act.put, sgPHCaRead]
    simp only [sgLHCaRead]
    go_wp2_with fail
    refine ⟨rfl, _, .pointer (some ⟨c, 1, none⟩), rfl, Or.inl ⟨by rfl, fun W hW => by go_simp⟩, plan_yield ?_⟩
    simp only [Act.put, sgPHCaRead]
    simp only [sgLHCaRead]
    go_wp2_with fail
    refine ⟨rfl, _, .pointer none, rfl, Or.inl ⟨by rfl, fun W hW => by have hW1 : W.cell? ⟨c, 1, none⟩ = some (.pointer none) := (hW.1.cell 1).trans rfl; go_simp⟩, plan_yield ?_⟩
    simp only [Act.put, sgPHCaRead]
    simp only [sgLHCaRead]
    go_wp2_with fail
    refine ⟨rfl, _, .agg (rfC k), rfl, kyields_load (by rfl) 43 _ (by rfl) w.heap.size 33 (rfF k.1 k.2) (by rfl) _ 43 (fun W hW => hW.2.1) Tryz.underlying43 rfl slSizeRef, plan_yield ?_⟩
    simp only [Act.put, sgPHCaRead]
    simp only [sgLHCaRead]
    go_wp2_with fail
    refine ⟨rfl, _, .agg (va 256 (iv .u8 f)), rfl, kyields_load (by rfl) 52 _ (by rfl) x 256 (iv .u8 f) (by rfl) _ 52 (fun W hW => hW.2.2) Tryz.underlying52 rfl sizeBk, plan_force ?_⟩
    simp only [Act.put, sgPHCaRead]
    simp only [sgLHCaRead]
    go_wp2_with fail
    refine (hHo.out _).mono ?_
    rintro y w5 ⟨rfl, hb5⟩
    go_wp2_with fail
    refine ⟨rfl, ⟨hS4.1.below hb5 hS4.1.lt, hS4.2.1.below hb5 hS4.2.1.lt, hS4.2.2.below hb5 hS4.2.2.lt⟩, plan_fin ?_⟩
    simp only [sgLHCaRead]
    go_wp2_with fail
    refine ⟨rfl, ?_⟩
    have k5 : Blk w5 (w.heap.size + 1) 52 (va 256 (iv .u8 fun _ => 0)) := k4d.below hb5 k4d.lt
    have x5 : Blk w5 x 52 (va 256 (iv .u8 f)) := hS4.2.2.below hb5 hS4.2.2.lt
    have HG5 : Hid (Blk w5 c 133 (caC (some ⟨g, 0, none⟩) none room m o n h (r + 1) bd cn)) := hS4.1.below hb5 hS4.1.lt
    have HD5 : Hid (DiskQ w5 B g N F (kk + 1) (lg + 1) q3) := HD4d.out.below hb5
    have HT5 : Hid (Turns (fun z => foot g N q z ∨ z = c) w w5) := HT4d.out.trans (Turns.of_below (S := fun z => foot g N q z ∨ z = c) hb5) fun z hz => .inl hz
    clear hb5 hS4 k4d HD4d HT4d
    go_wp2_with (first
      | (refine wpList_load_row (by rfl) 52 _ (by rfl) (x) (by rfl) 52 (va 256 (iv .u8 f)) (0, 0) _ x5 Tryz.underlying52 (by rfl) (sizeBk.trans (by rw [va_size])) ?_; simp only [Act.put, sgPHCaRead])
      | (refine wpList_store_row (by rfl) 52 _ _ (by rfl) (w.heap.size + 1) (va 256 (iv .u8 f)) (by rfl) (by rfl) 52 _ k5 (sizeBk.trans (by rw [va_size])) (by simp only [va_size]) (iv_one _ _ _) ?_; simp only [Act.put, sgPHCaRead])
      | fail)
    try simp only [Exit.inBlock, Exit.then]
    refine bodyPost_ret (results_row2 Tryz.results54 _ _ (w.heap.size + 1) 52 (va 256 (iv .u8 f)) (0, 0) _ rfl ((k5.set _)) Tryz.underlying52 rfl (sizeBk.trans (by rw [va_size]))) rfl ?_
    have hcl := HCL.out
    refine ⟨rfl, q3, HD5.out.kept fun z hz => setRow_other _ _ z _ fun e => ?_, HQX.out, HG5.out.other _ (by omega), HT5.out.laid (by omega) _, fun z hz => ?_⟩
    · rcases HF3.out z hz with u | u
      · have := HLO.out _ u
        omega
      · omega
    · rcases HF3.out z hz with u | u
      · exact .inl u
      · exact .inr (by omega)
set_option maxRecDepth 100000 in
set_option maxHeartbeats 4000000 in
theorem read_bad {cv : Value} (k : Rf) (hk0 : k.1 ≠ 0) (hkN : k.1 < N) (hN : N ≤ 8192) (hkk : kk < 549755813888) (hlg : lg < 137438953472) (hq : QuietC cv false q kk) (f : Nat → Nat) (hf : f = (fun j => F (k.1 * 256 + j))) (hdg : ¬ dgB f = k.2) (hr : 0 ≤ r ∧ r < 4611686018427387904) (hbd : 0 ≤ bd ∧ bd < 4611686018427387904) (w : World) (hB : B ≤ w.heap.size) (hg : Blk w c 133 (caC (some ⟨g, 0, none⟩) none room m o n h r bd cn)) (hd : DiskQ w B g N F kk lg q) (hnc : ¬ foot g N q c) : Calls Tryz.prog 54 #[.pointer (some ⟨c, 0, none⟩), .agg (rfC k)] w fun x w' => x = .returned (.tuple #[.agg (va 256 (iv .u8 fun _ => 0)), .int .i64 2]) ∧ ∃ q', DiskQ w' B g N F (kk + 1) (lg + 1) q' ∧ QuietC cv false q' (kk + 1) ∧ Blk w' c 133 (caC (some ⟨g, 0, none⟩) none room m o n h (r + 1) (bd + 1) cn) ∧ Turns (fun z => foot g N q z ∨ z = c) w w' ∧ ∀ z, foot g N q' z → foot g N q z ∨ w.heap.size ≤ z := by
  have hz := zero_bk
  have hML : Hid (∀ w : World, Blk w c 133 (caC (some ⟨g, 0, none⟩) none room m o n h r bd cn) → DiskQ w B g N F kk lg q → Calls Tryz.prog 72 #[.pointer (some ⟨c, 0, none⟩), .int .u32 (k.1 : Int)] w fun e w' => e = .returned (.bool true) ∧ w = w') := fun w h1 h2 => mayLie_ok k.1 N hk0 hkN hN w h1 (blocks_q w h2)
  have hRd : Hid (∀ w : World, B ≤ w.heap.size → DiskQ w B g N F kk lg q → Calls Tryz.prog 73 #[.pointer (some ⟨g, 0, none⟩), .int .i64 (k.1 : Int)] w fun x w' => x = .returned (.tuple #[.agg (va 256 (iv .u8 f)), .int .i64 0]) ∧ ∃ q', DiskQ w' B g N F (kk + 1) (lg + 1) q' ∧ QuietC cv false q' (kk + 1) ∧ Moved g N q q' w w') := fun w h1 h2 => by
    rw [hf]
    exact read_q hq k.1 hkN hN hkk hlg w h1 h2
  have hHo : Hid (∀ w : World, Calls Tryz.prog 74 #[.pointer none, .agg (rfC k), .agg (va 256 (iv .u8 f))] w fun x w' => x = .returned (.bool false) ∧ Below w.heap.size w w') := fun w => by
    have := holds_nil k f w
    rw [decide_eq_false hdg] at this
    exact this
  have hb1 : Below w.heap.size w ((w.alloc (.cells (rfC k) 43)).alloc (.cells (va 256 (iv .u8 fun _ => 0)) 52)) := below_new2 _ _ _
  have r1 : Blk ((w.alloc (.cells (rfC k) 43)).alloc (.cells (va 256 (iv .u8 fun _ => 0)) 52)) w.heap.size 43 (rfC k) := (Blk.new _ _ _).alloc _
  have k1 : Blk ((w.alloc (.cells (rfC k) 43)).alloc (.cells (va 256 (iv .u8 fun _ => 0)) 52)) (w.heap.size + 1) 52 (va 256 (iv .u8 fun _ => 0)) := Blk.new1 _ _ _ _
  have g1 : Blk ((w.alloc (.cells (rfC k) 43)).alloc (.cells (va 256 (iv .u8 fun _ => 0)) 52)) c 133 (caC (some ⟨g, 0, none⟩) none room m o n h r bd cn) := hg.below hb1 hg.lt
  have HD1 : Hid (DiskQ ((w.alloc (.cells (rfC k) 43)).alloc (.cells (va 256 (iv .u8 fun _ => 0)) 52)) B g N F kk lg q) := hd.below hb1
  have z1 : ((w.alloc (.cells (rfC k) 43)).alloc (.cells (va 256 (iv .u8 fun _ => 0)) 52)).cell? ⟨w.heap.size, 0, none⟩ = some (.int .u32 (k.1 : Int)) := (r1.cell 0).trans (va_at (rfF k.1 k.2) (by decide))
  have HLO : Hid (∀ z, foot g N q z → z < w.heap.size) := fun z hz => (hd.foots z hz).2
  have HNC : Hid (¬ foot g N q c) := hnc
  have HCL : Hid (c < w.heap.size) := hg.lt
  have HS1 : Hid (w.heap.size + 2 ≤ ((w.alloc (.cells (rfC k) 43)).alloc (.cells (va 256 (iv .u8 fun _ => 0)) 52)).heap.size) := by
    show _ ≤ _
    simp
  have HB1 : Hid (B ≤ w.heap.size) := hB
  have haU : (k.1 : Int) < 8192 := by omega
  have hwr : IntKind.i64.wrap (k.1 : Int) = (k.1 : Int) := by
    rw [IntKind.wrap_i64]
    omega
  obtain ⟨hr0, hr1⟩ := hr
  obtain ⟨hb0, hb2⟩ := hbd
  clear hg hd hk0 hkN hN hkk hlg hq hf hdg hB hnc
  go_enter Tryz.func54, Tryz.ntmps54
  go_wp2_with fail
  generalize ((w.alloc (.cells (rfC k) 43)).alloc (.cells (va 256 (iv .u8 fun _ => 0)) 52)) = w1 at *
  refine (hML.out _ g1 HD1.out).mono ?_
  rintro x _ ⟨rfl, rfl⟩
  go_wp2_with fail
  go_cut [6, 7] (fun v6 v7 wx => v7 = .int .i64 0 ∧ ∃ x q', v6 = .pointer (some ⟨x, 0, none⟩) ∧ w.heap.size + 2 ≤ x ∧ Blk wx x 52 (va 256 (iv .u8 f)) ∧ Blk wx w.heap.size 43 (rfC k) ∧ Blk wx (w.heap.size + 1) 52 (va 256 (iv .u8 fun _ => 0)) ∧ Blk wx c 133 (caC (some ⟨g, 0, none⟩) none room m o n h r bd cn) ∧ DiskQ wx B g N F (kk + 1) (lg + 1) q' ∧ QuietC cv false q' (kk + 1) ∧ Turns (foot g N q) w wx ∧ (∀ z, foot g N q' z → foot g N q z ∨ (w.heap.size + 2 ≤ z ∧ z ≠ x)))
  case first =>
    have hS0 : Blk w1.drew c 133 (caC (some ⟨g, 0, none⟩) none room m o n h r bd cn) ∧ Blk w1.drew w.heap.size 43 (rfC k) := ⟨g1, r1⟩
    have kd : Blk w1.drew (w.heap.size + 1) 52 (va 256 (iv .u8 fun _ => 0)) := k1
    have HDd : Hid (DiskQ w1.drew B g N F kk lg q) := HD1.out.below (Below.refl _ _).drew
    have HTd : Hid (Turns (foot g N q) w w1.drew) := .of_below hb1.drew
    have HSZ : Hid (w.heap.size + 2 ≤ w1.drew.heap.size) := HS1.out
    have HBW : Hid (B ≤ w1.drew.heap.size) := Nat.le_trans HB1.out (Nat.le_trans (Nat.le_add_right _ 2) HS1.out)
    clear hb1 r1 k1 g1 z1 HD1
    refine wp_region_plan (fun W => Blk W c 133 (caC (some ⟨g, 0, none⟩) none room m o n h r bd cn) ∧ Blk W w.heap.size 43 (rfC k)) (.yield [0] 1 (.yield [] 2 (.yield [] 3 (.yield [] 4 (.yield [] 5 (.yield [] 6 (.fork 7 11 (.force [8, 9, 10] 11 (.force [] 12 (.fin [13]))) (.force [] 7 (.yield [8] 9 (.yield [] 10 (.force [] 12 (.fin [13])))))))))))) (by kernel_rfl) (by kernel_rfl) hS0 (plan_yield ?_)
    generalize w1.drew = wd at *
    simp only [sgLHCaRead]
    go_wp2_with fail
    refine ⟨rfl, _, .pointer (some ⟨c, 0, none⟩), rfl, Or.inl ⟨by rfl, fun W hW => by go_simp⟩, plan_yield ?_⟩
    simp only [Act.put, sgPHCaRead]
    simp only [sgLHCaRead]
    go_wp2_with fail
    refine ⟨rfl, _, .pointer (some ⟨c, 0, none⟩), rfl, Or.inl ⟨by rfl, fun W hW => by go_simp⟩, plan_yield ?_⟩
    simp only [Act.put, sgPHCaRead]
    simp only [sgLHCaRead]
    go_wp2_with fail
    refine ⟨rfl, _, .pointer (some ⟨g, 0, none⟩), rfl, Or.inl ⟨by rfl, fun W hW => by have hW1 : W.cell? ⟨c, 0, none⟩ = some (.pointer (some ⟨g, 0, none⟩)) := (hW.1.cell 0).trans rfl; go_simp⟩, plan_yield ?_⟩
    simp only [Act.put, sgPHCaRead]
    simp only [sgLHCaRead]
    go_wp2_with fail
    refine ⟨rfl, _, .pointer (some ⟨w.heap.size, 0, none⟩), rfl, Or.inl ⟨by rfl, fun W hW => by go_simp⟩, plan_yield ?_⟩
    simp only [Act.put, sgPHCaRead]
    simp only [sgLHCaRead]
    go_wp2_with fail
    refine ⟨rfl, _, .int .u32 (k.1 : Int), rfl, Or.inl ⟨by rfl, fun W hW => by have hW1 : W.cell? ⟨w.heap.size, 0, none⟩ = some (.int .u32 (k.1 : Int)) := (hW.2.cell 0).trans (va_at (rfF k.1 k.2) (by decide)); go_simp⟩, plan_yield ?_⟩
    simp only [Act.put, sgPHCaRead]
    simp only [sgLHCaRead]
    go_wp2_with fail
    refine ⟨rfl, _, .int .i64 (k.1 : Int), rfl, Or.inl ⟨by rfl, fun W hW => by go_simp⟩, plan_fork ?_ ?_⟩
    simp only [Act.put, sgPHCaRead]
    · simp only [sgLHCaRead]
      go_wp2_with fail
      refine (hRd.out _ HBW.out HDd.out).mono ?_
      rintro x w2 ⟨rfl, q2, hd2, hq2, hm2⟩
      have s2c := hm2.1.blk hS0.1 HNC.out
      have s2r := hm2.1.blk hS0.2 (fun z => by have := HLO.out _ z; omega)
      have k2 : Blk w2 (w.heap.size + 1) 52 (va 256 (iv .u8 fun _ => 0)) := hm2.1.blk kd (fun z => by have := HLO.out _ z; omega)
      go_wp2_with fail
      refine ⟨rfl, ⟨s2c, s2r⟩, plan_force ?_⟩
      simp only [sgLHCaRead]
      have q0 := Blk.new w2 52 (va 256 (iv .u8 fun _ => 0))
      go_wp2_with fail
      refine ⟨rfl, ⟨s2c.alloc _, s2r.alloc _⟩, plan_force ?_⟩
      simp only [sgLHCaRead]
      refine wpList_store_row (by rfl) 52 _ _ (by rfl) (w2.heap.size) (va 256 (iv .u8 f)) (by rfl) (by rfl) 52 _ q0 (sizeBk.trans (by rw [va_size])) (by rw [va_size, va_size]) (iv_one _ _ _) ?_
      simp only [Act.put, sgPHCaRead]
      go_wp2_with fail
      refine ⟨rfl, ⟨(s2c.alloc _).other _ (Nat.ne_of_lt s2c.lt), (s2r.alloc _).other _ (Nat.ne_of_lt s2r.lt)⟩, plan_fin ?_⟩
      simp only [sgLHCaRead]
      go_wp2_with fail
      refine ⟨rfl, ?_⟩
      go_wp2_with fail
      go_meet
      have hsz := HSZ.out
      have hs2 := hm2.1.size
      have hdx : DiskQ ((w2.alloc (.cells (va 256 (iv .u8 fun _ => 0)) 52)).setRow w2.heap.size (va 256 (iv .u8 f))) B g N F (kk + 1) (lg + 1) q2 := (hd2.below (below_new1 _ _)).kept fun z hz => setRow_other _ _ z _ (fun e => by have := (hd2.foots z hz).2; omega)
      exact ⟨rfl, w2.heap.size, q2, rfl, by omega, q0.set _, (s2r.alloc _).other _ (Nat.ne_of_lt s2r.lt), (k2.alloc _).other _ (Nat.ne_of_lt k2.lt), (s2c.alloc _).other _ (Nat.ne_of_lt s2c.lt), hdx, hq2, ((HTd.out.trans hm2.1 fun z hz => .inl hz).alloc _).laid (by omega) _, fun z hz => by
        rcases hm2.2 z hz with u | u
        · exact .inl u
        · exact .inr ⟨by omega, by have := (hd2.foots z hz).2; omega⟩⟩
    · simp only [sgLHCaRead]
      have q0 := Blk.new wd 52 (va 256 (iv .u8 fun _ => 0))
      go_wp2_with fail
      refine ⟨rfl, ⟨hS0.1.alloc _, hS0.2.alloc _⟩, plan_force ?_⟩
      simp only [sgLHCaRead]
      go_wp2_with fail
      refine (hRd.out _ (Nat.le_trans HBW.out (by simp)) (HDd.out.below (below_new1 _ _))).mono ?_
      rintro x w2 ⟨rfl, q2, hd2, hq2, hm2⟩
      have s2c := hm2.1.blk (hS0.1.alloc _) HNC.out
      have s2r := hm2.1.blk (hS0.2.alloc _) (fun z => by have := HLO.out _ z; omega)
      have k2 : Blk w2 (w.heap.size + 1) 52 (va 256 (iv .u8 fun _ => 0)) := hm2.1.blk (kd.alloc _) (fun z => by have := HLO.out _ z; omega)
      have x2 : Blk w2 wd.heap.size 52 (va 256 (iv .u8 fun _ => 0)) := hm2.1.blk q0 (fun z => by have := HLO.out _ z; have := HSZ.out; omega)
      go_wp2_with fail
      refine ⟨rfl, ⟨s2c, s2r⟩, plan_yield ?_⟩
      simp only [sgLHCaRead]
      go_wp2_with fail
      refine ⟨rfl, _, .agg (va 256 (iv .u8 f)), rfl, Or.inl ⟨by rfl, fun W hW => by go_simp⟩, plan_yield ?_⟩
      simp only [Act.put, sgPHCaRead]
      simp only [sgLHCaRead]
      go_wp2_with fail
      refine ⟨rfl, _, .int .i64 0, rfl, Or.inl ⟨by rfl, fun W hW => by go_simp⟩, plan_force ?_⟩
      simp only [Act.put, sgPHCaRead]
      simp only [sgLHCaRead]
      refine wpList_store_row (by rfl) 52 _ _ (by rfl) (wd.heap.size) (va 256 (iv .u8 f)) (by rfl) (by rfl) 52 _ x2 (sizeBk.trans (by rw [va_size])) (by rw [va_size, va_size]) (iv_one _ _ _) ?_
      simp only [Act.put, sgPHCaRead]
      go_wp2_with fail
      refine ⟨rfl, ⟨s2c.other _ (Nat.ne_of_lt hS0.1.lt), s2r.other _ (Nat.ne_of_lt hS0.2.lt)⟩, plan_fin ?_⟩
      simp only [sgLHCaRead]
      go_wp2_with fail
      refine ⟨rfl, ?_⟩
      go_wp2_with fail
      go_meet
      have hsz := HSZ.out
      have hnx : ¬ foot g N q2 wd.heap.size := fun z => by
        rcases hm2.2 _ z with u | u
        · have := HLO.out _ u
          omega
        · simp at u
          omega
      have hdx : DiskQ (w2.setRow wd.heap.size (va 256 (iv .u8 f))) B g N F (kk + 1) (lg + 1) q2 := hd2.kept fun z hz => setRow_other _ _ z _ (fun e => hnx (e ▸ hz))
      exact ⟨rfl, wd.heap.size, q2, rfl, by omega, x2.set _, s2r.other _ (Nat.ne_of_lt hS0.2.lt), k2.other _ (Nat.ne_of_lt kd.lt), s2c.other _ (Nat.ne_of_lt hS0.1.lt), hdx, hq2, ((HTd.out.alloc _).trans hm2.1 fun z hz => .inl hz).laid (by omega) _, fun z hz => by
        rcases hm2.2 z hz with u | u
        · exact .inl u
        · simp at u
          exact .inr ⟨by omega, by omega⟩⟩
  case rest =>
    obtain ⟨rfl, x, q3, rfl, hx, x3, r3, k3, g3, hd3, hq3, ht3, hf3⟩ := hcut
    rename World => w3
    have hcl := HCL.out
    have HDX : Hid (DiskQ w3 B g N F (kk + 1) (lg + 1) q3) := hd3
    have HQX : Hid (QuietC cv false q3 (kk + 1)) := hq3
    have HNC3 : Hid (¬ foot g N q3 c) := fun z => by
      rcases hf3 c z with u | u
      · exact HNC.out u
      · omega
    have HF3 : Hid (∀ z, foot g N q3 z → foot g N q z ∨ (w.heap.size + 2 ≤ z ∧ z ≠ x)) := hf3
    have c7 : w3.cell? ⟨c, 7, none⟩ = some (.int .i64 r) := by
      rw [g3.cell]
      rfl
    have f7 : w3.frozen? ⟨c, 7, none⟩ = false := g3.frozen 7
    have g4 : Blk (w3.setCell ⟨c, 7, none⟩ (.int .i64 (r + 1))) c 133 (caC (some ⟨g, 0, none⟩) none room m o n h (r + 1) bd cn) := g3.put 7 _
    have x4 : Blk (w3.setCell ⟨c, 7, none⟩ (.int .i64 (r + 1))) x 52 (va 256 (iv .u8 f)) := blk_setNo x3 (by omega)
    have r4 : Blk (w3.setCell ⟨c, 7, none⟩ (.int .i64 (r + 1))) w.heap.size 43 (rfC k) := blk_setNo r3 (by omega)
    have k4 : Blk (w3.setCell ⟨c, 7, none⟩ (.int .i64 (r + 1))) (w.heap.size + 1) 52 (va 256 (iv .u8 fun _ => 0)) := blk_setNo k3 (by omega)
    have HD4 : Hid (DiskQ (w3.setCell ⟨c, 7, none⟩ (.int .i64 (r + 1))) B g N F (kk + 1) (lg + 1) q3) := HDX.out.kept fun z hz => Deep.blk_setCell_other w3 ⟨c, 7, none⟩ _ z fun e => HNC3.out ((show z = c from e) ▸ hz)
    have HT4 : Hid (Turns (fun z => foot g N q z ∨ z = c) w (w3.setCell ⟨c, 7, none⟩ (.int .i64 (r + 1)))) := turns_set (ht3.mono fun z hz => .inl hz) (.inr rfl)
    clear hcl hd3 hq3 hf3 g3 x3 r3 k3 ht3 r1 k1 g1 z1 HD1 hb1 HDX
    go_wp2_with fail
    have hS4 : Blk (w3.setCell ⟨c, 7, none⟩ (.int .i64 (r + 1))).drew c 133 (caC (some ⟨g, 0, none⟩) none room m o n h (r + 1) bd cn) ∧ Blk (w3.setCell ⟨c, 7, none⟩ (.int .i64 (r + 1))).drew w.heap.size 43 (rfC k) ∧ Blk (w3.setCell ⟨c, 7, none⟩ (.int .i64 (r + 1))).drew x 52 (va 256 (iv .u8 f)) := ⟨g4, r4, x4⟩
    have k4d : Blk (w3.setCell ⟨c, 7, none⟩ (.int .i64 (r + 1))).drew (w.heap.size + 1) 52 (va 256 (iv .u8 fun _ => 0)) := k4
    have HD4d : Hid (DiskQ (w3.setCell ⟨c, 7, none⟩ (.int .i64 (r + 1))).drew B g N F (kk + 1) (lg + 1) q3) := HD4.out.below (Below.refl _ _).drew
    have HT4d : Hid (Turns (fun z => foot g N q z ∨ z = c) w (w3.setCell ⟨c, 7, none⟩ (.int .i64 (r + 1))).drew) := HT4.out.drew
    clear c7 f7 g4 x4 r4 k4 HD4 HT4
    generalize (w3.setCell ⟨c, 7, none⟩ (.int .i64 (r + 1))) = w4 at *
    refine wp_region_plan (fun W => Blk W c 133 (caC (some ⟨g, 0, none⟩) none room m o n h (r + 1) bd cn) ∧ Blk W w.heap.size 43 (rfC k) ∧ Blk W x 52 (va 256 (iv .u8 f))) (.yield [0] 1 (.yield [] 2 (.yield [] 3 (.yield [] 4 (.yield [] 5 (.force [] 6 (.fin [7]))))))) (by kernel_rfl) (by kernel_rfl) hS4 (plan_yield ?_)
    simp only [sgLHCaRead]
    go_wp2_with fail
    refine ⟨rfl, _, .pointer (some ⟨c, 0, none⟩), rfl, Or.inl ⟨by rfl, fun W hW => by go_simp⟩, plan_yield ?_⟩
    simp only [Act.put, sgPHCaRead]
    simp only [sgLHCaRead]
    go_wp2_with fail
    refine ⟨rfl, _, .pointer (some ⟨c, 1, none⟩), rfl, Or.inl ⟨by rfl, fun W hW => by go_simp⟩, plan_yield ?_⟩
    simp only [Act.put, sgPHCaRead]
    simp only [sgLHCaRead]
    go_wp2_with fail
    refine ⟨rfl, _, .pointer none, rfl, Or.inl ⟨by rfl, fun W hW => by have hW1 : W.cell? ⟨c, 1, none⟩ = some (.pointer none) := (hW.1.cell 1).trans rfl; go_simp⟩, plan_yield ?_⟩
    simp only [Act.put, sgPHCaRead]
    simp only [sgLHCaRead]
    go_wp2_with fail
    refine ⟨rfl, _, .agg (rfC k), rfl, kyields_load (by rfl) 43 _ (by rfl) w.heap.size 33 (rfF k.1 k.2) (by rfl) _ 43 (fun W hW => hW.2.1) Tryz.underlying43 rfl slSizeRef, plan_yield ?_⟩
    simp only [Act.put, sgPHCaRead]
    simp only [sgLHCaRead]
    go_wp2_with fail
    refine ⟨rfl, _, .agg (va 256 (iv .u8 f)), rfl, kyields_load (by rfl) 52 _ (by rfl) x 256 (iv .u8 f) (by rfl) _ 52 (fun W hW => hW.2.2) Tryz.underlying52 rfl sizeBk, plan_force ?_⟩
    simp only [Act.put, sgPHCaRead]
    simp only [sgLHCaRead]
    go_wp2_with fail
    refine (hHo.out _).mono ?_
    rintro y w5 ⟨rfl, hb5⟩
    go_wp2_with fail
    refine ⟨rfl, ⟨hS4.1.below hb5 hS4.1.lt, hS4.2.1.below hb5 hS4.2.1.lt, hS4.2.2.below hb5 hS4.2.2.lt⟩, plan_fin ?_⟩
    simp only [sgLHCaRead]
    go_wp2_with fail
    refine ⟨rfl, ?_⟩
    have k5 : Blk w5 (w.heap.size + 1) 52 (va 256 (iv .u8 fun _ => 0)) := k4d.below hb5 k4d.lt
    have g5 : Blk w5 c 133 (caC (some ⟨g, 0, none⟩) none room m o n h (r + 1) bd cn) := hS4.1.below hb5 hS4.1.lt
    have c8 : w5.cell? ⟨c, 8, none⟩ = some (.int .i64 bd) := by
      rw [g5.cell]
      rfl
    have f8 : w5.frozen? ⟨c, 8, none⟩ = false := g5.frozen 8
    have hcl := HCL.out
    have k6 : Blk (w5.setCell ⟨c, 8, none⟩ (.int .i64 (bd + 1))) (w.heap.size + 1) 52 (va 256 (iv .u8 fun _ => 0)) := blk_setNo k5 (by omega)
    have HG6 : Hid (Blk (w5.setCell ⟨c, 8, none⟩ (.int .i64 (bd + 1))) c 133 (caC (some ⟨g, 0, none⟩) none room m o n h (r + 1) (bd + 1) cn)) := g5.put 8 _
    have HD6 : Hid (DiskQ (w5.setCell ⟨c, 8, none⟩ (.int .i64 (bd + 1))) B g N F (kk + 1) (lg + 1) q3) := (HD4d.out.below hb5).kept fun z hz => Deep.blk_setCell_other w5 ⟨c, 8, none⟩ _ z fun e => HNC3.out ((show z = c from e) ▸ hz)
    have HT6 : Hid (Turns (fun z => foot g N q z ∨ z = c) w (w5.setCell ⟨c, 8, none⟩ (.int .i64 (bd + 1)))) := turns_set (HT4d.out.trans (Turns.of_below (S := fun z => foot g N q z ∨ z = c) hb5) fun z hz => .inl hz) (.inr rfl)
    clear hb5 hS4 k4d HD4d HT4d k5 g5 hcl
    go_wp2_with (first
      | (refine wpList_store_row (by rfl) 52 _ _ (by rfl) (w.heap.size + 1) (va 256 (iv .u8 (fun _ => 0))) (by rfl) (by rfl) 52 _ k6 (sizeBk.trans (by rw [va_size])) (by simp only [va_size]) (iv_one _ _ _) ?_; simp only [Act.put, sgPHCaRead])
      | fail)
    try simp only [Exit.inBlock, Exit.then]
    refine bodyPost_ret (results_row2 Tryz.results54 _ _ (w.heap.size + 1) 52 (va 256 (iv .u8 (fun _ => 0))) (0, 0) _ rfl ((k6.set _)) Tryz.underlying52 rfl (sizeBk.trans (by rw [va_size]))) rfl ?_
    have hcl := HCL.out
    refine ⟨rfl, q3, HD6.out.kept fun z hz => setRow_other _ _ z _ fun e => ?_, HQX.out, HG6.out.other _ (by omega), HT6.out.laid (by omega) _, fun z hz => ?_⟩
    · rcases HF3.out z hz with u | u
      · have := HLO.out _ u
        omega
      · omega
    · rcases HF3.out z hz with u | u
      · exact .inl u
      · exact .inr (by omega)
end
end Go.Proofs.YtiofonffmplfmaaGreat
