/- Commits: what begun answers lasts; the statements' awake; the calls of a state that stands. -/
import Derived.Test.YtppagdmlfgialaaGreatDoorHCmFresh
import Derived.Test.YtppagdmlfgialaaGreatDoorHCmRoot
import Derived.Test.YtppagdmlfgialaaGreatDoorHDkCut
import Derived.Test.YtppagdmlfgialaaGreatDoorHSlAwake
import Derived.Test.YtppagdmlfgialaaGreatDoorHSuSize
import Derived.Test.YtppagdmlfgialaaGreatDoorHGrBlk

namespace Go.Proofs.YtppagdmlfgialaaGreatDoor
theorem sgLHCmAwake : (∀ (α : Type) (a : α) (l r : List α), (a :: l) ++ r = a :: (l ++ r)) ∧ (∀ (α : Type) (l : List α), [] ++ l = l) ∧ (∀ (α : Type) (l : List α), l ++ [] = l) ∧ (∀ (α β : Type) (f : α → Option β) (a : α) (l : List α), (a :: l).filterMap f = match f a with | none => l.filterMap f | some b => b :: l.filterMap f) ∧ (∀ (α β : Type) (f : α → Option β), [].filterMap f = []) ∧ (∀ (α : Type) (l : List α) (i : Nat), l.toArray[i]? = l[i]?) ∧ (∀ (α : Type) (a : α) (l : List α), (a :: l)[0]? = some a) ∧ (∀ (α : Type) (a : α) (l : List α) (i : Nat), (a :: l)[i + 1]? = l[i]?) :=
  ⟨fun _ _ _ _ => List.cons_append, fun _ _ => List.nil_append _, fun _ _ => List.append_nil _, fun _ _ _ _ _ => List.filterMap_cons, fun _ _ _ => List.filterMap_nil, fun _ _ _ => List.getElem?_toArray, fun _ _ _ => List.getElem?_cons_zero, fun _ _ _ _ => List.getElem?_cons_succ⟩
theorem sgPHCmAwake : (∀ (α : Type) (l : List α) (i : Nat) (a : α), l.toArray.setIfInBounds i a = (l.set i a).toArray) ∧ (∀ (α : Type) (a b : α) (l : List α), (a :: l).set 0 b = b :: l) ∧ (∀ (α : Type) (a b : α) (l : List α) (i : Nat), (a :: l).set (i + 1) b = a :: l.set i b) :=
  ⟨fun _ _ _ _ => List.setIfInBounds_toArray _ _ _, fun _ _ _ _ => List.set_cons_zero, fun _ _ _ _ _ => List.set_cons_succ⟩
end Go.Proofs.YtppagdmlfgialaaGreatDoor
namespace Go.Proofs.YtppagdmlfgialaaGreatDoor
open Go Go.RowKit
set_option linter.unusedSimpArgs false
set_option linter.unusedVariables false
/-- a stand's cells -/
def sdC (g r st a b : Option Nat) (u n : Int) : Array Value := #[.pointer (g.map fun g => ⟨g, 0, none⟩), .pointer (r.map fun g => ⟨g, 0, none⟩), .pointer (st.map fun g => ⟨g, 0, none⟩), .map a, .map b, .int .i64 u, .int .i64 n]
theorem sdC_size (g r st a b : Option Nat) (u n : Int) : (sdC g r st a b u n).size = 7 := rfl
theorem sdC_all (g r st a b : Option Nat) (u n : Int) : (sdC g r st a b u n).all (·.oneCell') = true := by simp [sdC, Value.oneCell']
theorem zero_sd (w : World) : (zeroValue 32).run Tryz.prog w = .ok (.agg (sdC none none none none none 0 0)) w := zero_of (by kernel_rfl) w
theorem sizeSd : (Tryz.prog.info? 32).map (·.size) = some 7 := by kernel_rfl
theorem built_sd (g rg st a b n : Nat) : Tryz.prog.built 32 [(0, .pointer (some ⟨g, 0, none⟩)), (1, .pointer (some ⟨rg, 0, none⟩)), (2, .pointer (some ⟨st, 0, none⟩)), (3, .agg #[.map (some a), .map (some b)]), (4, .int .i64 3), (5, .int .i64 (n : Int))] = some (sdC (some g) (some rg) (some st) (some a) (some b) 3 (n : Int)) := by kernel_rfl
theorem sizeD32 : (Tryz.prog.info? 38).map (·.size) = some 32 := by kernel_rfl
theorem built_aslot (r : Rf) : Tryz.prog.built 43 [(0, .int .u64 1), (1, .agg (rfC r))] = some (slC (1, r)) := by kernel_rfl
theorem sl_range2 {w : World} {g T : Nat} {s : Sl} (h : Blk w g T (slC s)) : w.rangeAt g 2 ((List.range 32).map (iv .u8 (dF s.2.2))) := by
  have q := Blk.range (n := 34) (f := slF s) h 2 32 (by decide)
  rw [show ((List.range 32).map fun j => slF s (2 + j)) = (List.range 32).map (iv .u8 (dF s.2.2)) from List.map_congr_left fun j hj => ?_] at q
  · exact q
  · show slF s (2 + j) = _
    unfold slF iv
    rw [if_neg (by omega), if_neg (by omega), show 2 + j - 2 = j by omega]
theorem sl_at {w : World} {g T : Nat} {s : Sl} (h : Blk w g T (slC s)) : w.cell? ⟨g, 1, none⟩ = some (.int .u32 ((s.2.1 : Nat) : Int)) := by rw [h.cell]; exact va_at (slF s) (by decide)
theorem cnt_us3 : ∀ n, 4 ≤ n → cntF us3 n = 3
  | 0, h => absurd h (by decide)
  | n + 1, h => by
    rcases Nat.lt_or_ge n 4 with h4 | h4
    · obtain rfl : n = 3 := by omega
      decide
    · show cntF us3 n + (if us3 n then 1 else 0) = 3
      rw [cnt_us3 n h4, if_neg (by unfold us3; simp; omega)]
/-- the list of used numbers -/
def usA (j : Nat) : Nat := j + 1
theorem mem_us3 (p : Nat) : memA usA 3 p = us3 p := by
  unfold memA memA memA memA usA us3
  by_cases h1 : p = 1
  · subst h1; decide
  · by_cases h2 : p = 2
    · subst h2; decide
    · by_cases h3 : p = 3
      · subst h3; decide
      · simp [h1, h2, h3]
        omega
theorem good_us (n : Nat) (h : 16 ≤ n) : ∀ k, k < 3 → OkAt usA n k := fun k hk => by
  have : k = 0 ∨ k = 1 ∨ k = 2 := by omega
  rcases this with rfl | rfl | rfl <;> exact ⟨by decide, by unfold usA; omega, by decide⟩
theorem room_reown {w : World} {P Q : Nat → Prop} {r n : Nat} {F G : Nat → Bool} (h : RoomIs w P r n F G) (hQ : ∀ k, k < w.heap.size → P k → Q k) : RoomIs w Q r n F G := by
  obtain ⟨gu, bu, cu, gn, bn, cn, U, X, hR, hF, hG⟩ := h
  exact ⟨gu, bu, cu, gn, bn, cn, U, X, ⟨hR.cells, hR.u, hR.x, ⟨hQ _ hR.cells.lt hR.own.1, hQ _ hR.u.glt hR.own.2.1, hQ _ hR.u.blt.2 hR.own.2.2.1, hQ _ hR.x.glt hR.own.2.2.2.1, hQ _ hR.x.blt.2 hR.own.2.2.2.2⟩, hR.ne, hR.z, hR.n16⟩, hF, hG⟩
theorem room_keep {w w' : World} {P : Nat → Prop} {r n : Nat} {F G : Nat → Bool} (h : RoomIs w P r n F G) (hk : ∀ k, k < w.heap.size → P k → w'.heap[k]? = w.heap[k]?) : RoomIs w' P r n F G := by
  obtain ⟨gu, bu, cu, gn, bn, cn, U, X, hR, hF, hG⟩ := h
  exact ⟨gu, bu, cu, gn, bn, cn, U, X, hR.keep (hk _ hR.cells.lt hR.own.1) (hk _ hR.u.glt hR.own.2.1) (hk _ hR.u.blt.2 hR.own.2.2.1) (hk _ hR.x.glt hR.own.2.2.2.1) (hk _ hR.x.blt.2 hR.own.2.2.2.2), hF, hG⟩
theorem field_table (n : Nat) (t m : Rf) (w : World) : (Instr.field 48 (.agg (suC (suFr n t m))) 2).run Tryz.prog w = .ok (.agg (trC 0 t)) w := by kernel_rfl
theorem isU32_own {w : World} {B b n c : Nat} {A : Nat → Nat} (h : w.ownsRow B 37 1 (.slice (some ⟨b, 0, none⟩) n c) n ((List.range n).map fun i => .int .u32 ((A i : Nat) : Int))) (hA : ∀ i, i < n → A i < 4294967296) : IsU32s w (some ⟨b, 0, none⟩) n A := fun i hi => ⟨hA i hi, b, 0, rfl, (h.lt b rfl).2, by
  rw [Nat.zero_add, h.cellAt i (by omega)]
  simp [hi]⟩
/-- what stands behind the register's write -/
structure Bg1 (w5 wx : World) (n g c mc rg mr xg mf ml mm rm a16 lg : Nat) (ca : Int) (lp : Option Addr) (F : Nat → Nat) (q : QD) (v : Value) (t s : Rf) : Prop where
  rd : RD wx w5.heap.size g n F 0 lg q [] rg mr v [(1, s)]
  qu : QuietC (.slice none 0 0) false q 1
  ca : Blk wx c 151 (caC (some ⟨g, 0, none⟩) lp ca mc none none 0 0 0 0)
  cm : MapIs rfV ptV wx mc []
  sl : Blk wx a16 43 (slC (1, s))
  ro : RoomIs wx (fun k => w5.heap.size ≤ k) rm n us3 us3
  ix : Blk wx xg 166 (ixC (some ⟨c, 0, none⟩) 0 t 1 1 mf ml mm)
  lo : w5.heap.size ≤ c ∧ w5.heap.size ≤ mc ∧ w5.heap.size ≤ xg
  below : Below w5.heap.size w5 wx
theorem Bg1.keep {w5 wx wy : World} {n g c mc rg mr xg mf ml mm rm a16 lg : Nat} {ca : Int} {lp : Option Addr} {F : Nat → Nat} {q : QD} {v : Value} {t s : Rf} (h : Bg1 w5 wx n g c mc rg mr xg mf ml mm rm a16 lg ca lp F q v t s) (hb : Below wx.heap.size wx wy) : Bg1 w5 wy n g c mc rg mr xg mf ml mm rm a16 lg ca lp F q v t s := ⟨h.rd.below hb, h.qu, h.ca.below hb h.ca.lt, h.cm.below hb h.cm.lt, h.sl.below hb h.sl.lt, h.ro.below hb, h.ix.below hb h.ix.lt, h.lo, h.below.trans (hb.mono h.below.size)⟩
theorem in_us3 (n p : Nat) (hp : p < n) : qinF us3 us3 n 2 p = us3 p := by
  unfold qinF stAt
  rw [decide_eq_true hp, Bool.true_and]
  by_cases h0 : p = 0
  · subst h0
    rw [if_pos (.inl rfl)]
    decide
  · rw [if_neg (by omega)]
    unfold stN
    cases h : us3 p <;> simp [h]
theorem in4_us3 (n p : Nat) (hp : p < n) : qinF us3 us3 n 4 p = false := by
  unfold qinF stAt
  rw [decide_eq_true hp, Bool.true_and]
  by_cases h0 : p = 0
  · subst h0
    rw [if_pos (.inl rfl)]
    decide
  · rw [if_neg (by omega)]
    unfold stN
    cases h : us3 p <;> simp [h]
/-- what begun answers -/
structure Bgn (w w' : World) (n B g c mc rg mr xg mf ml mm rm st lg : Nat) (ca : Int) (lp : Option Addr) (F : Nat → Nat) (q : QD) (v : Value) (qq : Option Addr) (cq : Nat) (t m s : Rf) : Prop where
  lo : w.heap.size ≤ B
  rd : RD w' B g n F 0 lg q [] rg mr v [(1, s)]
  qu : QuietC (.slice none 0 0) false q 1
  ca : Blk w' c 151 (caC (some ⟨g, 0, none⟩) lp ca mc none none 0 0 0 0)
  cm : MapIs rfV ptV w' mc []
  ro : RoomIs w' (fun k => B ≤ k) rm n us3 us3
  ix : Blk w' xg 166 (ixC (some ⟨c, 0, none⟩) 0 t 1 1 mf ml mm)
  st : Blk w' st 62 (stC (some ⟨rg, 0, none⟩) (some ⟨c, 0, none⟩) (1, s) (suFr n t m) (some ⟨rm, 0, none⟩) (some ⟨xg, 0, none⟩) qq 1 cq false)
  at_ : t.1 = 1 ∧ m.1 = 2 ∧ s.1 = 3
  ok : okD t.2 ∧ okD m.2 ∧ okD s.2
  below : Below w.heap.size w w'
theorem Bgn.of {w w5 wx wy : World} {n g c mc rg mr xg mf ml mm rm a16 lg st : Nat} {ca : Int} {lp : Option Addr} {F : Nat → Nat} {q : QD} {v : Value} {qq : Option Addr} {cq : Nat} {t m s : Rf} (h : Bg1 w5 wx n g c mc rg mr xg mf ml mm rm a16 lg ca lp F q v t s) (hst : Blk wx st 62 (stC (some ⟨rg, 0, none⟩) (some ⟨c, 0, none⟩) (1, s) (suFr n t m) (some ⟨rm, 0, none⟩) (some ⟨xg, 0, none⟩) qq 1 cq false)) (hsl : w5.heap.size ≤ st) (hk : ∀ b, w5.heap.size ≤ b → wy.heap[b]? = wx.heap[b]?) (hw : w.heap.size ≤ w5.heap.size) (hb : Below w.heap.size w wy) (ha : t.1 = 1 ∧ m.1 = 2 ∧ s.1 = 3) (ho : okD t.2 ∧ okD m.2 ∧ okD s.2) : Bgn w wy n w5.heap.size g c mc rg mr xg mf ml mm rm st lg ca lp F q v qq cq t m s := by
  refine ⟨hw, ⟨h.rd.d.kept fun b hf => hk b (h.rd.d.foots b hf).1, ?_, h.rd.reg.kept fun b hf => hk b (h.rd.reg.foots b hf).1, h.rd.ap⟩, h.qu, (hk c h.lo.1).trans h.ca, h.cm.of (hk mc h.lo.2.1), room_keep h.ro fun k _ h3 => hk k h3, (hk xg h.lo.2.2).trans h.ix, (hk st hsl).trans hst, ha, ho, hb⟩
  rw [h.qu.cu]
  exact World.ownsRow_nil _ _ _ _
def BegunP (w : World) (n : Nat) (ca : Int) (lp : Option Addr) (e : Ending) (w' : World) : Prop := ∃ (B g c mc rg mr xg mf ml mm rm st lg : Nat) (F : Nat → Nat) (q : QD) (v : Value) (qq : Option Addr) (cq : Nat) (t m s : Rf) (a b : Nat), e = .returned (.tuple #[.agg (sdC (some g) (some rg) (some st) (some a) (some b) 3 (n : Int)), .bool true]) ∧ Bgn w w' n B g c mc rg mr xg mf ml mm rm st lg ca lp F q v qq cq t m s
set_option maxRecDepth 100000 in
set_option maxHeartbeats 16000000 in
theorem begun21_any (n : Nat) (h16 : 16 ≤ n) (hn : n ≤ 1024) (ca : Int) (hc0 : 0 ≤ ca) (hc1 : ca ≤ 4096) (lp : Option Addr) (w : World) : Calls Tryz.prog 5 #[.int .i64 (n : Int), .int .i64 ca, .pointer lp] w fun e w' => BegunP w n ca lp e w' := by
  have hz := zero_sd
  have hzs := zero_slot21
  have hzu := zero_rsup
  have hmm := @run_makeMap Tryz.prog
  have HN : Hid (16 ≤ n ∧ n ≤ 1024) := ⟨h16, hn⟩
  have HCA : Hid (0 ≤ ca ∧ ca ≤ 4096) := ⟨hc0, hc1⟩
  have i1 : ¬ (n : Int) < 16 := by omega
  have i2 : ¬ (8192 : Int) < (n : Int) := by omega
  have i3 : ¬ ca < 0 := by omega
  have i4 : ¬ (4096 : Int) < ca := by omega
  clear h16 hn hc0 hc1
  go_enter Tryz.func5, Tryz.ntmps5
  have h1 : Blk (w.alloc (.cells (sdC none none none none none 0 0) 32)) w.heap.size 32 (sdC none none none none none 0 0) ∧ Below w.heap.size w (w.alloc (.cells (sdC none none none none none 0 0) 32)) := ⟨Blk.new _ _ _, below_new1 _ _⟩
  go_upto_region 5 with fail
  generalize (w.alloc (.cells (sdC none none none none none 0 0) 32)) = w1 at *
  clear i1 i2 i3 i4
  have HFr : Hid (∀ w : World, Calls Tryz.prog 19 #[.int .i64 (n : Int)] w fun e w' => FreshP w n e w') := fun w => fresh21_any n HN.out.1 HN.out.2 w
  go_wp2_with fail
  refine (HFr.out w1).mono ?_
  rintro e w2 ⟨ib, ic, X, t, m, s, rfl, hi2, hat, hok, hb2⟩
  have HI2 : Hid (Img w2 w1.heap.size (.slice (some ⟨ib, 0, none⟩) n ic) n X) := hi2
  have HAT : Hid ((t.1 = 1 ∧ m.1 = 2 ∧ s.1 = 3) ∧ (okD t.2 ∧ okD m.2 ∧ okD s.2)) := ⟨hat, hok⟩
  have H2 : Hid (Blk w2 w.heap.size 32 (sdC none none none none none 0 0) ∧ Below w.heap.size w w2) := ⟨h1.1.below hb2 h1.1.lt, h1.2.trans (hb2.mono h1.2.size)⟩
  clear hi2 hat hok hb2 h1 HFr
  have q9 : Blk ((w2.alloc (.cells (slC sl0) 69)).alloc (.cells (suC su0) 74)) w2.heap.size 69 (slC sl0) := (Blk.new _ _ _).alloc _
  have q10 : Blk (((w2.alloc (.cells (slC sl0) 69)).alloc (.cells (suC su0) 74)).setRow w2.heap.size (slC (1, s))) (w2.heap.size + 1) 74 (suC su0) := (Blk.new1 w2 _ _ _).other _ (by omega)
  have hb5 : Below w2.heap.size w2 ((((w2.alloc (.cells (slC sl0) 69)).alloc (.cells (suC su0) 74)).setRow w2.heap.size (slC (1, s))).setRow (w2.heap.size + 1) (suC (suFr n t m))) := below_setRow (below_setRow (below_new2 _ _ _) (Nat.le_refl _) _) (Nat.le_succ _) _
  have H5 : Hid ((Blk ((((w2.alloc (.cells (slC sl0) 69)).alloc (.cells (suC su0) 74)).setRow w2.heap.size (slC (1, s))).setRow (w2.heap.size + 1) (suC (suFr n t m))) w.heap.size 32 (sdC none none none none none 0 0) ∧ Blk ((((w2.alloc (.cells (slC sl0) 69)).alloc (.cells (suC su0) 74)).setRow w2.heap.size (slC (1, s))).setRow (w2.heap.size + 1) (suC (suFr n t m))) w2.heap.size 69 (slC (1, s)) ∧ Blk ((((w2.alloc (.cells (slC sl0) 69)).alloc (.cells (suC su0) 74)).setRow w2.heap.size (slC (1, s))).setRow (w2.heap.size + 1) (suC (suFr n t m))) (w2.heap.size + 1) 74 (suC (suFr n t m))) ∧ (w.heap.size < w2.heap.size ∧ Below w.heap.size w ((((w2.alloc (.cells (slC sl0) 69)).alloc (.cells (suC su0) 74)).setRow w2.heap.size (slC (1, s))).setRow (w2.heap.size + 1) (suC (suFr n t m))))) := ⟨⟨H2.out.1.below hb5 H2.out.1.lt, (q9.set _).other _ (by omega), q10.set _⟩, H2.out.1.lt, H2.out.2.trans (hb5.mono (Nat.le_of_lt H2.out.1.lt))⟩
  have HI5 : Hid (Img ((((w2.alloc (.cells (slC sl0) 69)).alloc (.cells (suC su0) 74)).setRow w2.heap.size (slC (1, s))).setRow (w2.heap.size + 1) (suC (suFr n t m))) w1.heap.size (.slice (some ⟨ib, 0, none⟩) n ic) n X) := HI2.out.below hb5
  clear HI2 H2 hb5
  go_upto_region 6 with (first
    | (refine wpList_store_row (by rfl) 69 _ _ (by rfl) (w2.heap.size) (slC (1, s)) (by rfl) (by rfl) 69 (_) (by exact q9) (sizeSlot21.trans (by rw [slC_size])) (by simp only [slC_size]) (slC_all _) ?_; simp only [Act.put, sgPHCmAwake])
    | (refine wpList_store_row (by rfl) 74 _ _ (by rfl) (w2.heap.size + 1) (suC (suFr n t m)) (by rfl) (by rfl) 74 (_) (by exact q10) (sizeRSup.trans (by rw [suC_size])) (by simp only [suC_size]) (suC_all _) ?_; simp only [Act.put, sgPHCmAwake])
    | fail)
  clear q9 q10 hzs hzu
  generalize ((((w2.alloc (.cells (slC sl0) 69)).alloc (.cells (suC su0) 74)).setRow w2.heap.size (slC (1, s))).setRow (w2.heap.size + 1) (suC (suFr n t m))) = w5 at *
  generalize w2.heap.size = a9 at *
  have HNw : Hid (∀ w : World, Calls Tryz.prog 20 #[.int .i64 (n : Int)] w fun e w' => ∃ g q, e = .returned (.tuple #[.pointer (some ⟨g, 0, none⟩), .int .i64 0]) ∧ DiskQ w' w.heap.size g n (fun _ => 0) 0 0 q ∧ Quiet q 0 ∧ Below w.heap.size w w' ∧ q.l = [] ∧ ∀ j, q.G.getD j [] = []) := fun w => diskNew_new n HN.out.1 (by have := HN.out; omega) w
  go_wp2_with fail
  refine (HNw.out w5).mono ?_
  rintro e w6 ⟨g, q, rfl, hq6, hQ, hb6, hql, hqG⟩
  have HI6 : Hid (Img w6 w1.heap.size (.slice (some ⟨ib, 0, none⟩) n ic) n X) := HI5.out.below hb6
  have HQ6 : Hid (DiskQ w6 w5.heap.size g n (fun _ => 0) 0 0 q ∧ Quiet q 0 ∧ q.l = [] ∧ (∀ j, q.G.getD j [] = []) ∧ Below w5.heap.size w5 w6) := ⟨hq6, hQ, hql, hqG, hb6⟩
  clear hq6 hQ hb6 hql hqG HI5 HNw
  go_wp2_with fail
  refine (given21_any (by have := HN.out; omega) w6 HI6.out).mono ?_
  rintro e w7 ⟨lb, lc, rfl, hlb, hib, hb7⟩
  have hq7 : DiskQ w7 w5.heap.size g n (fun _ => 0) 0 0 q := HQ6.out.1.below hb7
  have h57 : Below w5.heap.size w5 w7 := HQ6.out.2.2.2.2.trans (hb7.mono HQ6.out.2.2.2.2.size)
  have HLd := load_q (fun _ => 0) (fun i => blkAt X i) lb lc (by have := HN.out; omega) (by have := HN.out; omega) (fun a => by rw [HQ6.out.2.2.1]; rfl) HQ6.out.2.2.2.1 (fun z => by have := (HQ6.out.1.foots _ z).2; omega) w7 h57.size hq7 hib
  have HLD : Hid _ := HLd
  have H7 : Hid (Below w5.heap.size w5 w7 ∧ (∀ b, foot g n q b → w5.heap.size ≤ b) ∧ QuietC (.slice none 0 0) false q 0) := ⟨h57, fun b hb => (hq7.foots b hb).1, HQ6.out.2.1⟩
  clear hlb hib hb7 hq7 h57 HLd HI6 HQ6
  go_wp2_with fail
  refine (show Calls _ _ _ _ _ from HLD.out).mono ?_
  rintro e w8 ⟨rfl, l8, G8, ss8, hq8, hmv8⟩
  have h78 : Below w5.heap.size w7 w8 := hmv8.1.below H7.out.1.size fun b hb => H7.out.2.1 b hb
  have hqq : Quiet { q with l := l8, G := G8, ss := ss8 } 0 := ⟨H7.out.2.2.dd, H7.out.2.2.pl, H7.out.2.2.cu, H7.out.2.2.ev0, H7.out.2.2.ev1, H7.out.2.2.ones⟩
  generalize { q with l := l8, G := G8, ss := ss8 } = q8 at *
  obtain ⟨F8, hF8⟩ : ∃ F8, F8 = loadF (fun i => blkAt X i) (fun _ => 0) n := ⟨_, rfl⟩
  rw [← hF8] at hq8
  have HQ8 : Hid (DiskQ w8 w5.heap.size g n F8 0 0 q8 ∧ Quiet q8 0 ∧ Below w5.heap.size w5 w8) := ⟨hq8, hqq, H7.out.1.trans h78⟩
  clear hq8 hmv8 h78 hqq hF8 HLD H7
  have HCN : Hid (∀ w : World, Calls Tryz.prog 23 #[.pointer (some ⟨g, 0, none⟩), .pointer lp, .int .i64 ca] w fun e w' => ∃ c m, e = .returned (.tuple #[.pointer (some ⟨c, 0, none⟩), .int .i64 0]) ∧ (w.heap.size ≤ c ∧ w.heap.size ≤ m) ∧ Blk w' c 151 (caC (some ⟨g, 0, none⟩) lp ca m none none 0 0 0 0) ∧ MapIs rfV ptV w' m [] ∧ Below w.heap.size w w') := fun w => caNew_ok g lp ca HCA.out.1 HCA.out.2 w
  go_wp2_with fail
  refine (HCN.out w8).mono ?_
  rintro e w9 ⟨c, mc, rfl, hcm, hcb, hcmp, hb9⟩
  go_wp2_with fail
  refine (newReg_any _ w9).mono ?_
  rintro e w10 ⟨rg, mr, rfl, hrg, hb10⟩
  have h59 : Below w5.heap.size w5 w9 := HQ8.out.2.2.trans (hb9.mono HQ8.out.2.2.size)
  have hrd : RD w10 w5.heap.size g n F8 0 0 q8 [] rg mr (.slice none 0 0) [] := RD.new (HQ8.out.1.below hb9) HQ8.out.2.1 h59.size hrg hb10
  have HRD : Hid (RD w10 w5.heap.size g n F8 0 0 q8 [] rg mr (.slice none 0 0) [] ∧ Quiet q8 0 ∧ Below w5.heap.size w5 w10) := ⟨hrd, HQ8.out.2.1, h59.trans (hb10.mono h59.size)⟩
  have hnf : ∀ b, w8.heap.size ≤ b → b < w9.heap.size → ¬ rdfoot g n q8 rg mr (.slice none 0 0) b := fun b h1 h2 hf => by
    rcases hf with hf | hf
    · have := (HQ8.out.1.foots b hf).2
      omega
    · have := (hrg.foots b hf).1
      omega
  have hcl : c < w9.heap.size := hcb.lt
  have HCL : Hid (w5.heap.size ≤ c ∧ w5.heap.size ≤ mc) := ⟨Nat.le_trans HQ8.out.2.2.size hcm.1, Nat.le_trans HQ8.out.2.2.size hcm.2⟩
  have hml : mc < w9.heap.size := by
    obtain ⟨es, cl, hg, _⟩ := hcmp
    exact (Array.getElem?_eq_some_iff.1 hg).1
  have HC : Hid ((Blk w10 c 151 (caC (some ⟨g, 0, none⟩) lp ca mc none none 0 0 0 0) ∧ MapIs rfV ptV w10 mc []) ∧ ¬ rdfoot g n q8 rg mr (.slice none 0 0) c ∧ ¬ rdfoot g n q8 rg mr (.slice none 0 0) mc) := ⟨⟨hcb.below hb10 hcl, hcmp.of (hb10.block mc hml)⟩, hnf c hcm.1 hcl, hnf mc hcm.2 hml⟩
  clear hcm hcb hcmp hb9 hrg hb10 h59 hrd hnf hcl hml HQ8 HCN
  go_upto_region 11 with fail
  have x9 : Blk w10 a9 69 (slC (1, s)) := H5.out.1.2.1.below HRD.out.2.2 H5.out.1.2.1.lt
  have x91 := sl_at x9
  have HX9 : Hid (w10.rangeAt a9 2 ((List.range 32).map (iv .u8 (dF s.2)))) := sl_range2 x9
  clear x9
  have hz3 := zero_slot
  go_wp2_with (first
    | (refine wpList_load_blk (by rfl) 38 _ (by rfl) (a9) (2) 32 (iv .u8 (dF s.2)) (by rfl) _ (by exact HX9.out) Tryz.underlying38 rfl sizeD32 ?_; simp only [Act.put, sgPHCmAwake])
    | fail)
  clear x91 HX9
  refine (lref21_any s w10).mono ?_
  rintro e w11 ⟨rfl, hb11⟩
  have q16 : Blk (w11.alloc (.cells (slC sl0) 43)) w11.heap.size 43 (slC sl0) := Blk.new _ _ _
  have hb16 : Below w11.heap.size w11 ((w11.alloc (.cells (slC sl0) 43)).setRow w11.heap.size (slC (1, s))) := below_setRow (below_new1 _ _) (Nat.le_refl _) _
  have h1016 : Below w10.heap.size w10 ((w11.alloc (.cells (slC sl0) 43)).setRow w11.heap.size (slC (1, s))) := hb11.trans (hb16.mono hb11.size)
  have HS16 : Hid ((RD ((w11.alloc (.cells (slC sl0) 43)).setRow w11.heap.size (slC (1, s))) w5.heap.size g n F8 0 0 q8 [] rg mr (.slice none 0 0) [] ∧ Quiet q8 0 ∧ Below w5.heap.size w5 ((w11.alloc (.cells (slC sl0) 43)).setRow w11.heap.size (slC (1, s)))) ∧ ((Blk ((w11.alloc (.cells (slC sl0) 43)).setRow w11.heap.size (slC (1, s))) c 151 (caC (some ⟨g, 0, none⟩) lp ca mc none none 0 0 0 0) ∧ MapIs rfV ptV ((w11.alloc (.cells (slC sl0) 43)).setRow w11.heap.size (slC (1, s))) mc []) ∧ ¬ rdfoot g n q8 rg mr (.slice none 0 0) c ∧ ¬ rdfoot g n q8 rg mr (.slice none 0 0) mc) ∧ (Blk ((w11.alloc (.cells (slC sl0) 43)).setRow w11.heap.size (slC (1, s))) w11.heap.size 43 (slC (1, s)) ∧ ¬ rdfoot g n q8 rg mr (.slice none 0 0) w11.heap.size)) := ⟨⟨HRD.out.1.below h1016, HRD.out.2.1, HRD.out.2.2.trans (h1016.mono HRD.out.2.2.size)⟩, ⟨⟨HC.out.1.1.below h1016 HC.out.1.1.lt, HC.out.1.2.below h1016 HC.out.1.2.lt⟩, HC.out.2⟩, q16.set _, HRD.out.1.new_ne hb11.size⟩
  have HLO : Hid ((∀ b, rdfoot g n q8 rg mr (.slice none 0 0) b → b < w10.heap.size) ∧ w10.heap.size ≤ w11.heap.size) := ⟨fun b hb => (HRD.out.1.rdfoots b hb).2, hb11.size⟩
  clear hb11 hb16 h1016 HRD HC
  go_upto_region 12 with (first
    | (refine tr_build2 (by rfl) 43 0 1 _ _ (by rfl) (.int .u64 1) (.agg (rfC s)) (by rfl) (by rfl) (slC (1, s)) (by exact built_aslot s) ?_; simp only [Act.put, sgPHCmAwake])
    | (refine wpList_store_row (by rfl) 43 _ _ (by rfl) (w11.heap.size) (slC (1, s)) (by rfl) (by rfl) 43 (_) (by exact q16) (sizeSlot.trans (by rw [slC_size])) (by simp only [slC_size]) (slC_all _) ?_; simp only [Act.put, sgPHCmAwake])
    | fail)
  clear q16 hz3
  generalize ((w11.alloc (.cells (slC sl0) 43)).setRow w11.heap.size (slC (1, s))) = w12 at *
  generalize w11.heap.size = a16 at *
  have HU0 : Hid ((w12.alloc (.cells #[] 37)).ownsRow w12.heap.size 37 1 (.slice (some ⟨w12.heap.size, 0, none⟩) 0 0) 0 ((List.range 0).map fun i => .int .u32 ((usA i : Nat) : Int)) ∧ Below w12.heap.size w12 (w12.alloc (.cells #[] 37))) := ⟨kown_empty (Blk.new _ _ _) (Nat.le_refl _), below_new1 _ _⟩
  go_upto_region 13 with fail
  generalize (w12.alloc (.cells #[] 37)) = w13 at *
  obtain ⟨i0, hi0, hz0, hz1, hz2⟩ := info_parts infoU32g
  go_wp2_with fail
  go_loopw [17, 18] (fun v17 v18 wr => Hid (∃ (j ub uc : Nat), j ≤ 3 ∧ v18 = .int .i64 (((j + 1 : Nat) : Nat) : Int) ∧ v17 = .slice (some ⟨ub, 0, none⟩) j uc ∧ wr.ownsRow w12.heap.size 37 1 (.slice (some ⟨ub, 0, none⟩) j uc) j ((List.range j).map fun i => .int .u32 ((usA i : Nat) : Int)) ∧ Below w12.heap.size w12 wr)) (fun _ v18 _ => 4 - (intOf v18).toNat)
  case atStart => exact ⟨0, w12.heap.size, 0, by decide, rfl, rfl, HU0.out⟩
  case round =>
    clear HU0
    obtain ⟨U0, rfl⟩ : ∃ u, u = wr := ⟨_, rfl⟩
    obtain ⟨j, ub, uc, hj3, rfl, rfl, ho, hb⟩ := Hid.out hrel
    have HO : Hid (U0.ownsRow w12.heap.size 37 1 (.slice (some ⟨ub, 0, none⟩) j uc) j ((List.range j).map fun i => .int .u32 ((usA i : Nat) : Int)) ∧ Below w12.heap.size w12 U0) := ⟨ho, hb⟩
    clear hrel ho hb
    have c71 : U0.cell? ⟨a9 + 1, 71, none⟩ = some (.int .i64 3) := sup_c71 (H5.out.1.2.2.below (HS16.out.1.2.2.trans (HO.out.2.mono HS16.out.1.2.2.size)) H5.out.1.2.2.lt)
    by_cases hlt : j < 3
    · have j1 : (((j + 1 : Nat) : Nat) : Int) ≤ 3 := by omega
      have hcv : (((j + 1 : Nat) : Nat) : Int) % 4294967296 = (((j + 1 : Nat) : Nat) : Int) := by omega
      have HO1 : Hid ((U0.alloc (.cells #[.int .u32 (((j + 1 : Nat) : Nat) : Int)] 37)).ownsRow w12.heap.size 37 1 (.slice (some ⟨ub, 0, none⟩) j uc) j ((List.range j).map fun i => .int .u32 ((usA i : Nat) : Int)) ∧ Below w12.heap.size w12 (U0.alloc (.cells #[.int .u32 (((j + 1 : Nat) : Nat) : Int)] 37))) := ⟨kown_below HO.out.1 (below_new1 _ _), HO.out.2.trans ((below_new1 _ _).mono HO.out.2.size)⟩
      have HNEW : Hid (∀ k u, [Value.int .u32 (((j + 1 : Nat) : Nat) : Int)][k]? = some u → (U0.alloc (.cells #[.int .u32 (((j + 1 : Nat) : Nat) : Int)] 37)).cell? ((⟨U0.heap.size, 0, none⟩ : Addr).add k) = some u) := cell_one_new _ _ _
      clear HO
      go_wp2_with (first
        | (at_builtin; refine bi_append_at rfl _ _ 60 rfl w12.heap.size 37 i0 (.int .u32 0) 1 4 Tryz.underlying60 hi0 hz0 hz1 hz2 rfl (by decide) _ _ _ rfl HO1.out.1 ⟨U0.heap.size, 0, none⟩ 1 1 [.int .u32 (((j + 1 : Nat) : Nat) : Int)] rfl rfl HNEW.out (fun u hu => by simp at hu; subst hu; rfl) (by unfold maxLen; omega) (by omega) HO1.out.2.size ?_; intro v7 w7 hown hgr hv7; simp only [Act.put, sgPHCmAwake])
        | fail)
      obtain ⟨b7, c7, rfl, _, _, _⟩ := own_some hown (by omega)
      have HO7 : Hid (w7.ownsRow w12.heap.size 37 1 (.slice (some ⟨b7, 0, none⟩) (j + 1) c7) (j + 1) ((List.range (j + 1)).map fun i => .int .u32 ((usA i : Nat) : Int)) ∧ Below w12.heap.size w12 w7) := ⟨by
        rw [List.range_succ, List.map_append]
        exact hown, HO1.out.2.trans ((Below.refl _ _).grown hgr HO1.out.2.size fun k hk => (HO1.out.1.lt k hk).1)⟩
      clear hown hgr hv7 HO1 HNEW hcv c71
      go_roundw
      case rel => exact ⟨j + 1, b7, c7, hlt, by simp, rfl, HO7.out⟩
      case measure =>
        simp [intOf]
        omega
    · obtain rfl : j = 3 := by omega
      as_aux_lemma =>
        have hU := isU32_own HO.out.1 (fun i hi => by unfold usA; omega)
        have HUS : Hid (IsU32s U0 (some ⟨ub, 0, none⟩) 3 usA ∧ Below w12.heap.size w12 U0) := ⟨hU, HO.out.2⟩
        clear hU HO hlt hj3
        go_upto_region 17 with fail
        clear c71
        have HRm : Hid (∀ w : World, IsU32s w (some ⟨ub, 0, none⟩) 3 usA → Calls Tryz.prog 26 #[.int .i64 (n : Int), .slice (some ⟨ub, 0, none⟩) 3 uc] w fun e w' => ∃ r, e = .returned (.tuple #[.pointer (some ⟨r, 0, none⟩), .int .i64 0, .int .i64 0]) ∧ RoomIs w' (fun k => w.heap.size ≤ k) r n us3 us3 ∧ Below w.heap.size w w') := fun w hw => (rnew_any HN.out.1 (by have := HN.out; omega) _ 3 uc (by decide) usA w hw).mono fun e w' h => by
          obtain ⟨⟨r, h1, _, h2⟩ | ⟨k, hk, _, _, h3⟩, hb⟩ := h
          · rw [show memA usA 3 = us3 from funext mem_us3] at h2
            exact ⟨r, h1, h2, hb⟩
          · exact absurd (good_us n HN.out.1 k hk) h3
        go_wp2_with fail
        refine (HRm.out U0 HUS.out.1).mono ?_
        rintro e w17 ⟨rm, rfl, hrm, hb17⟩
        have h1217 : Below w12.heap.size w12 w17 := HUS.out.2.trans (hb17.mono HUS.out.2.size)
        have HRO : Hid (RoomIs w17 (fun k => w12.heap.size ≤ k) rm n us3 us3 ∧ Below w12.heap.size w12 w17) := ⟨room_reown hrm fun k _ hk => Nat.le_trans HUS.out.2.size hk, h1217⟩
        have HX10 : Hid (Blk w17 (a9 + 1) 74 (suC (suFr n t m))) := H5.out.1.2.2.below (HS16.out.1.2.2.trans (h1217.mono HS16.out.1.2.2.size)) H5.out.1.2.2.lt
        clear hrm hb17 h1217 HUS HRm
        go_wp2_with (first
          | (refine wpList_load_rowg (by rfl) 74 _ (by rfl) (a9 + 1) (by rfl) 74 (suC (suFr n t m)) (0, 0) _ (by exact HX10.out) Tryz.underlying74 (by rfl) (sizeRSup.trans (by rw [suC_size])) ?_; simp only [Act.put, sgPHCmAwake])
          | fail)
        refine (root21_any (suFr n t m) w17).mono ?_
        rintro e w18 ⟨rfl, hb18⟩
        have HRO8 : Hid (RoomIs w18 (fun k => w12.heap.size ≤ k) rm n us3 us3 ∧ Below w12.heap.size w12 w18) := ⟨HRO.out.1.below hb18, HRO.out.2.trans (hb18.mono HRO.out.2.size)⟩
        have hfd := field_table n t m
        have HOp : Hid (∀ w : World, Calls Tryz.prog 27 #[.pointer (some ⟨c, 0, none⟩), .agg (trC 0 t), .int .i64 1] w fun e w' => ∃ x mf ml mc, e = .returned (.tuple #[.pointer (some ⟨x, 0, none⟩), .int .i64 0]) ∧ w.heap.size ≤ x ∧ Blk w' x 166 (ixC (some ⟨c, 0, none⟩) 0 t 1 1 mf ml mc) ∧ Below w.heap.size w w') := fun w => (open_full (cp := some ⟨c, 0, none⟩) (by have := HAT.out.1.1; omega) HAT.out.2.1 (by decide) ⟨by decide, by decide, by
          have h1 := HAT.out.1.1
          rw [decide_eq_false (show ¬ t = rf0 from fun e => by rw [e] at h1; exact absurd h1 (by decide))]
          decide, by
          unfold rOk
          rw [HAT.out.1.1]
          simp⟩ w).mono fun e w' ⟨x, mf, ml, mc, h1, h2, h3, _, _, h4⟩ => ⟨x, mf, ml, mc, h1, h2.1, h3, h4⟩
        clear hb18 HRO HX10
        go_wp2_with fail
        refine (HOp.out w18).mono ?_
        rintro e w19 ⟨xg, mf, ml, mm, rfl, hxg, hx9, hb19⟩
        have h1219 : Below w12.heap.size w12 w19 := HRO8.out.2.trans (hb19.mono HRO8.out.2.size)
        have h519 : Below w5.heap.size w5 w19 := HS16.out.1.2.2.trans (h1219.mono HS16.out.1.2.2.size)
        have HR9 : Hid ((RD w19 w5.heap.size g n F8 0 0 q8 [] rg mr (.slice none 0 0) [] ∧ Quiet q8 0 ∧ Below w5.heap.size w5 w19) ∧ (RoomIs w19 (fun k => w12.heap.size ≤ k) rm n us3 us3 ∧ w12.heap.size ≤ xg ∧ Blk w19 xg 166 (ixC (some ⟨c, 0, none⟩) 0 t 1 1 mf ml mm)) ∧ Below w12.heap.size w12 w19 ∧ Blk w19 a16 43 (slC (1, s))) := ⟨⟨HS16.out.1.1.below h1219, HS16.out.1.2.1, h519⟩, ⟨HRO8.out.1.below hb19, Nat.le_trans HRO8.out.2.size hxg, hx9⟩, h1219, HS16.out.2.2.1.below h1219 HS16.out.2.2.1.lt⟩
        have HAT3 : Hid (s.1 ≠ 0) := by have := HAT.out.1.2.2; show _ ≠ _; omega
        clear hfd HOp h1219 h519 hxg hx9 hb19 HRO8
        go_wp2_with (first
          | (refine wpList_load_rowg (by rfl) 43 _ (by rfl) (a16) (by rfl) 43 (slC (1, s)) (0, 0) _ (by exact HR9.out.2.2.2) Tryz.underlying43 (by rfl) (sizeSlot.trans (by rw [slC_size])) ?_; simp only [Act.put, sgPHCmAwake])
          | fail)
        refine (rdWrite_go (by decide) (mm := 0) (by rw [HR9.out.1.2.1.cu]; exact HR9.out.1.2.1) (by decide) (by decide) (by decide) (1, s) (show (1 : Nat) < _ by decide) HAT3.out rfl (by simp) w19 HR9.out.1.2.2.size HR9.out.1.1).mono ?_
        rw [ahB_nil, bhB_nil]
        rintro e w20 ⟨rfl, q20, lg20, v20, hrd, hqu, _, _, hmv⟩
        have hlow : Below w5.heap.size w19 w20 := HR9.out.1.1.low HR9.out.1.2.2.size hmv
        have hno : ∀ b, w12.heap.size ≤ b → ¬ rdfoot g n q8 rg mr (.slice none 0 0) b := fun b h1 h2 => by
          have h3 := HLO.out.1 b h2
          have h4 := HLO.out.2
          have h5 := HS16.out.2.2.1.lt
          omega
        have HG : Hid (Bg1 w5 w20 n g c mc rg mr xg mf ml mm rm a16 lg20 ca lp F8 q20 v20 t s) := by
          have h1 := HS16.out.2.1.1.1.below HR9.out.2.2.1 HS16.out.2.1.1.1.lt
          have h2 := HS16.out.2.1.1.2.below HR9.out.2.2.1 HS16.out.2.1.1.2.lt
          refine ⟨hrd, ?_, (hmv.blk h1 HS16.out.2.1.2.1).1, h2.of (hmv.1.block mc h2.lt HS16.out.2.1.2.2), (hmv.blk HR9.out.2.2.2 HS16.out.2.2.2).1, ?_, (hmv.blk HR9.out.2.1.2.2 (hno xg HR9.out.2.1.2.1)).1, ⟨HCL.out.1, HCL.out.2, Nat.le_trans HS16.out.1.2.2.size HR9.out.2.1.2.1⟩, HR9.out.1.2.2.trans hlow⟩
          · rw [HR9.out.1.2.1.cu] at hqu
            exact hqu
          · exact room_reown (room_keep HR9.out.2.1.1 fun k hk h3 => hmv.1.block k hk (hno k h3)) fun k _ hk => Nat.le_trans HS16.out.1.2.2.size hk
        clear hrd hqu hmv hlow hno HR9 HS16 HLO
        go_upto_region 21 with fail
        have HSS : Hid (SuW (suFr n t m) ∧ fitS (suFr n t m) (1, s).1 (1, s).2.1 (n : Int) = true ∧ m ≠ rf0 ∧ trOk 0 m) := ⟨suFr_w n HN.out.2 t m HAT.out.1.1 HAT.out.1.2.1 HAT.out.2.1 HAT.out.2.2.1, by
          show fitS (suFr n t m) 1 s.1 (n : Int) = true
          rw [HAT.out.1.2.2]
          exact fits_fresh n HN.out.1 HN.out.2 t m HAT.out.1.1 HAT.out.1.2.1, fun e => by
          have h1 := HAT.out.1.2.1
          rw [e] at h1
          exact absurd h1 (by decide), by
          unfold rOk
          rw [HAT.out.1.2.1]
          simp, by decide, by decide⟩
        have HCN : Hid (∀ W, Bg1 w5 W n g c mc rg mr xg mf ml mm rm a16 lg20 ca lp F8 q20 v20 t s → Calls Tryz.prog 30 #[.pointer (some ⟨rg, 0, none⟩), .pointer (some ⟨c, 0, none⟩), .agg (slC (1, s)), .agg (suC (suFr n t m)), .pointer (some ⟨rm, 0, none⟩), .pointer (some ⟨xg, 0, none⟩)] W fun e w' => ∃ st q cq, e = .returned (.tuple #[.pointer (some ⟨st, 0, none⟩), .int .i64 0]) ∧ W.heap.size ≤ st ∧ Blk w' st 62 (stC (some ⟨rg, 0, none⟩) (some ⟨c, 0, none⟩) (1, s) (suFr n t m) (some ⟨rm, 0, none⟩) (some ⟨xg, 0, none⟩) q 1 cq false) ∧ Below W.heap.size W w') := fun W hW => (commitNew_leaf (u := 3) (1, s) (by have := HAT.out.1.2.2; show s.1 < _; omega) (suFr n t m) HSS.out.1 rfl rfl rfl (by have := HN.out; omega) HSS.out.2.1 rfl HSS.out.2.2.1 (by have := HAT.out.1.2.1; show m.1 < _; omega) HAT.out.2.2.1 HSS.out.2.2.2 ((cntF_congr fun p hp => in_us3 n p hp).trans (cnt_us3 n (by have := HN.out; omega))) (cntF_none _ n fun p hp => in4_us3 n p hp) rg xg W hW.ro hW.ca hW.rd.d).mono fun e w' ⟨st, q, cq, h1, h0, h2, h3⟩ => ⟨st, q, cq, h1, h0, h2, h3⟩
        have hS : Bg1 w5 w20.drew n g c mc rg mr xg mf ml mm rm a16 lg20 ca lp F8 q20 v20 t s ∧ Blk w20.drew (a9 + 1) 74 (suC (suFr n t m)) := ⟨HG.out.keep (Below.refl _ _).drew, (H5.out.1.2.2.below HG.out.below.drew H5.out.1.2.2.lt)⟩
        clear HG HSS
        refine wp_region_partsS (fun W => Bg1 w5 W n g c mc rg mr xg mf ml mm rm a16 lg20 ca lp F8 q20 v20 t s ∧ Blk W (a9 + 1) 74 (suC (suFr n t m))) [([0, 1, 5, 6], 2, true), ([], 3, false), ([], 4, false), ([], 7, false)] [8, 9, 10, 11, 12] [] (by kernel_rfl) (by kernel_rfl) hS ?_
        refine partsI_yield ?_
        simp only [sgLHCmAwake]
        go_wp2_with fail
        refine ⟨rfl, _, .agg (slC (1, s)), rfl, yieldsIf_row (by rfl) 43 _ (by rfl) a16 (by rfl) 43 (slC (1, s)) (fun W hW => hW.1.sl) Tryz.underlying43 rfl (sizeSlot.trans (by rw [slC_size])), ?_⟩
        simp only [Act.put, sgPHCmAwake]
        refine partsI_force ?_
        simp only [sgLHCmAwake]
        (refine wpList_load_rowg (by rfl) 74 _ (by rfl) (a9 + 1) (by rfl) 74 (suC (suFr n t m)) (0, 0) _ (by exact hS.2) Tryz.underlying74 (by rfl) (sizeRSup.trans (by rw [suC_size])) ?_; simp only [Act.put, sgPHCmAwake])
        go_wp2_with fail
        refine ⟨rfl, hS, ?_⟩
        refine partsI_force ?_
        simp only [sgLHCmAwake]
        refine wpList_hideY (by rfl) fun K QQ hK => ?_
        go_wp2_with fail
        refine (root21_any (suFr n t m) _).mono ?_
        rintro e w21 ⟨rfl, hb21⟩
        have hS1 : Bg1 w5 w21 n g c mc rg mr xg mf ml mm rm a16 lg20 ca lp F8 q20 v20 t s ∧ Blk w21 (a9 + 1) 74 (suC (suFr n t m)) := ⟨hS.1.keep hb21, hS.2.below hb21 hS.2.lt⟩
        clear hb21
        go_wp2_with fail
        refine ⟨rfl, hS1, ?_⟩
        refine partsI_force ?_
        simp only [sgLHCmAwake]
        refine wpList_hideY (by rfl) fun K QQ hK => ?_
        go_wp2_with fail
        refine (HCN.out w21 hS1.1).mono ?_
        rintro e w22 ⟨st, qq, cq, rfl, hsl22, hst22, hb22⟩
        have hS2 : Bg1 w5 w22 n g c mc rg mr xg mf ml mm rm a16 lg20 ca lp F8 q20 v20 t s ∧ Blk w22 (a9 + 1) 74 (suC (suFr n t m)) := ⟨hS1.1.keep hb22, hS1.2.below hb22 hS1.2.lt⟩
        have HST : Hid (Blk w22 st 62 (stC (some ⟨rg, 0, none⟩) (some ⟨c, 0, none⟩) (1, s) (suFr n t m) (some ⟨rm, 0, none⟩) (some ⟨xg, 0, none⟩) qq 1 cq false)) := hst22
        have HSL : Hid (w5.heap.size ≤ st) := Nat.le_trans hS1.1.below.size hsl22
        clear hb22 hst22 hsl22
        go_wp2_with fail
        refine ⟨rfl, hS2, ?_⟩
        refine partsI_last ?_
        simp only [sgLHCmAwake]
        go_wp2_with fail
        refine ⟨rfl, ?_⟩
        go_wp2_with fail
        have HB2 : Hid (Bg1 w5 w22 n g c mc rg mr xg mf ml mm rm a16 lg20 ca lp F8 q20 v20 t s ∧ Blk w22 (a9 + 1) 74 (suC (suFr n t m))) := hS2
        clear hS hS1 hS2 HCN
        refine (new15_any w22).mono ?_
        rintro e w23 ⟨m1, m2, rfl, hm1, hm2, hml, hb23⟩
        have hzw := zero_w15
        have q26 : Blk (w23.alloc (.cells #[.map none, .map none] 30)) w23.heap.size 30 #[.map none, .map none] := Blk.new _ _ _
        have hb26 : Below w23.heap.size w23 ((w23.alloc (.cells #[.map none, .map none] 30)).setRow w23.heap.size #[.map (some m1), .map (some m2)]) := below_setRow (below_new1 _ _) (Nat.le_refl _) _
        have hb226 := hb23.trans (hb26.mono hb23.size)
        have hm2l : m2 < w23.heap.size := (Array.getElem?_eq_some_iff.1 hm2).1
        have HW4 : Hid (Below w22.heap.size w22 ((w23.alloc (.cells #[.map none, .map none] 30)).setRow w23.heap.size #[.map (some m1), .map (some m2)]) ∧ Blk ((w23.alloc (.cells #[.map none, .map none] 30)).setRow w23.heap.size #[.map (some m1), .map (some m2)]) w23.heap.size 30 #[.map (some m1), .map (some m2)] ∧ JM flV ((w23.alloc (.cells #[.map none, .map none] 30)).setRow w23.heap.size #[.map (some m1), .map (some m2)]) m2 [] ∧ (w22.heap.size ≤ m2 ∧ m2 < w23.heap.size)) := ⟨hb226, q26.set _, (JM.new hm2).below hb26 hm2l, hml.2, hm2l⟩
        have HA26 : Hid (w.heap.size < w23.heap.size) := Nat.lt_of_lt_of_le (Nat.lt_of_lt_of_le H5.out.1.1.lt HB2.out.1.below.size) hb23.size
        clear hm1 hm2 hb23 hb26 hb226 hml hm2l
        go_upto_region 23 with (first
          | (refine wpList_store_row (by rfl) 30 _ _ (by rfl) (w23.heap.size) #[.map (some m1), .map (some m2)] (by rfl) (by rfl) 30 (_) (by exact q26) (sizeW15.trans (by rfl)) (by rfl) (by simp [Value.oneCell']) ?_; simp only [Act.put, sgPHCmAwake])
          | fail)
        clear q26 hzw
        generalize ((w23.alloc (.cells #[.map none, .map none] 30)).setRow w23.heap.size #[.map (some m1), .map (some m2)]) = w24 at *
        generalize w23.heap.size = a26 at *
        have x26 : w24.cell? ⟨a26, 1, none⟩ = some (.map (some m2)) := (HW4.out.2.1.cell 1).trans rfl
        have hb25 : Below w24.heap.size w24 (w24.alloc (.map #[] 0)) := (Below.refl _ w24).alloc (Nat.le_refl _) _
        have hj25 : JM flV (w24.alloc (.map #[] 0)) m2 [] := HW4.out.2.2.1.below hb25 HW4.out.2.2.1.lt
        obtain ⟨w25, hput, hm25, ht25⟩ := jm_put1 (P := Tryz.prog) (V := flV) Tryz.underlying28 Tryz.underlying3 hj25 1 w24.heap.size
        unfold flV flC at hput
        have h2225 : Below w22.heap.size (w24.alloc (.map #[] 0)) w25 := ht25.below (B := w22.heap.size) (Nat.le_trans (Nat.le_trans HW4.out.2.2.2.1 (Nat.le_of_lt HW4.out.2.2.1.lt)) hb25.size) fun b e => by rw [e]; exact HW4.out.2.2.2.1
        have h2 : Below w22.heap.size w22 w25 := (HW4.out.1.trans (hb25.mono HW4.out.1.size)).trans h2225
        have hlm : JM (fun x : Nat => Value.int .u8 ((x : Nat) : Int)) w25 w24.heap.size [] := (JM.new (heap_alloc_new w24 _)).keep (ht25.block _ (by simp) (fun e => by have h3 := HW4.out.2.2.1.lt; have : w24.heap.size = m2 := e; omega))
        have HW5 : Hid ((Bg1 w5 w25 n g c mc rg mr xg mf ml mm rm a16 lg20 ca lp F8 q20 v20 t s ∧ Blk w25 (a9 + 1) 74 (suC (suFr n t m)) ∧ Blk w25 st 62 (stC (some ⟨rg, 0, none⟩) (some ⟨c, 0, none⟩) (1, s) (suFr n t m) (some ⟨rm, 0, none⟩) (some ⟨xg, 0, none⟩) qq 1 cq false)) ∧ Blk w25 a26 30 #[.map (some m1), .map (some m2)] ∧ OneF w25 m2 w24.heap.size ∧ Below w5.heap.size w5 w25) := ⟨⟨HB2.out.1.keep h2, HB2.out.2.below h2 HB2.out.2.lt, HST.out.below h2 HST.out.lt⟩, (ht25.blk (HW4.out.2.1.below hb25 HW4.out.2.1.lt) (fun e => by have h3 := HW4.out.2.2.2.2; have : a26 = m2 := e; omega)), ⟨hm25, hlm⟩, HB2.out.1.below.trans (h2.mono HB2.out.1.below.size)⟩
        clear hb25 hj25 hm25 ht25 h2225 h2 hlm HB2 HST HW4
        go_upto_region 24 with fail
        clear hput x26
        generalize w24.heap.size = lm at *
        have hS : Blk w25.drew (a9 + 1) 74 (suC (suFr n t m)) ∧ Blk w25.drew a26 30 #[.map (some m1), .map (some m2)] := ⟨HW5.out.1.2.1, HW5.out.2.1⟩
        have HG5 : Hid (Bg1 w5 w25.drew n g c mc rg mr xg mf ml mm rm a16 lg20 ca lp F8 q20 v20 t s ∧ Blk w25.drew st 62 (stC (some ⟨rg, 0, none⟩) (some ⟨c, 0, none⟩) (1, s) (suFr n t m) (some ⟨rm, 0, none⟩) (some ⟨xg, 0, none⟩) qq 1 cq false)) := ⟨HW5.out.1.1.keep (Below.refl _ _).drew, HW5.out.1.2.2⟩
        have HOF : Hid (OneF w25.drew m2 lm) := HW5.out.2.2.1.below (Below.refl _ _).drew
        have HX6 : Hid (Blk w25.drew w.heap.size 32 (sdC none none none none none 0 0)) := H5.out.1.1.below HW5.out.2.2.2.drew H5.out.1.1.lt
        clear HW5
        refine wp_region_partsS (fun W => Blk W (a9 + 1) 74 (suC (suFr n t m)) ∧ Blk W a26 30 #[.map (some m1), .map (some m2)]) [([0, 1, 2, 7, 9], 3, true), ([], 5, true), ([], 6, true), ([], 10, true), ([], 4, false), ([11, 12], 8, true), ([], 13, true), ([], 14, true), ([], 15, false)] [16] [] (by kernel_rfl) (by kernel_rfl) hS ?_
        refine partsI_yield ?_
        simp only [sgLHCmAwake]
        go_wp2_with fail
        refine ⟨rfl, _, .agg #[.map (some m1), .map (some m2)], rfl, yieldsIf_row (by rfl) 30 _ (by rfl) a26 (by rfl) 30 #[.map (some m1), .map (some m2)] (fun W hW => hW.2) Tryz.underlying30 rfl (sizeW15.trans (by rfl)), ?_⟩
        simp only [Act.put, sgPHCmAwake]
        refine partsI_yield0 (v := .pointer (some ⟨a9 + 1, 71, none⟩)) (by simp only [List.getElem?_toArray, List.getElem?_cons_zero, List.getElem?_cons_succ]; rfl) ?_ ?_
        · exact Or.inl ⟨by rfl, fun W hW => by go_simp⟩
        simp only [Act.put, sgPHCmAwake]
        refine partsI_yield0 (v := .int .i64 3) (by simp only [List.getElem?_toArray, List.getElem?_cons_zero, List.getElem?_cons_succ]; rfl) ?_ ?_
        · exact Or.inl ⟨by rfl, fun W hW => by have hc : W.cell? ⟨a9 + 1, 71, none⟩ = some (.int .i64 3) := sup_c71 hW.1; go_simp⟩
        simp only [Act.put, sgPHCmAwake]
        refine partsI_yield0 (v := .bool true) (by simp only [List.getElem?_toArray, List.getElem?_cons_zero, List.getElem?_cons_succ]; rfl) ?_ ?_
        · exact Or.inl ⟨by rfl, fun W hW => by go_simp⟩
        simp only [Act.put, sgPHCmAwake]
        refine partsI_force ?_
        simp only [sgLHCmAwake]
        refine wpList_hideY (by rfl) fun K QQ hK => ?_
        go_wp2_with fail
        refine (commit15_one m1 m2 lm _ HOF.out).mono ?_
        rintro e w26 ⟨a, b, rfl, hb26⟩
        have hS1 : Blk w26 (a9 + 1) 74 (suC (suFr n t m)) ∧ Blk w26 a26 30 #[.map (some m1), .map (some m2)] := ⟨hS.1.below hb26 hS.1.lt, hS.2.below hb26 hS.2.lt⟩
        have HG6 : Hid (Bg1 w5 w26 n g c mc rg mr xg mf ml mm rm a16 lg20 ca lp F8 q20 v20 t s ∧ Blk w26 st 62 (stC (some ⟨rg, 0, none⟩) (some ⟨c, 0, none⟩) (1, s) (suFr n t m) (some ⟨rm, 0, none⟩) (some ⟨xg, 0, none⟩) qq 1 cq false)) := ⟨HG5.out.1.keep hb26, HG5.out.2.below hb26 HG5.out.2.lt⟩
        have HX7 : Hid (Blk w26 w.heap.size 32 (sdC none none none none none 0 0)) := HX6.out.below hb26 HX6.out.lt
        clear hb26
        go_wp2_with fail
        refine ⟨rfl, hS1, ?_⟩
        refine partsI_yield ?_
        simp only [sgLHCmAwake]
        go_wp2_with fail
        refine ⟨rfl, _, .agg (sdC (some g) (some rg) (some st) (some a) (some b) 3 (n : Int)), rfl, Or.inl ⟨by rfl, fun W hW => run_built6 (by rfl) (by rfl) (by rfl) (by rfl) (by rfl) (by rfl) (by rfl) (built_sd g rg st a b n)⟩, ?_⟩
        simp only [Act.put, sgPHCmAwake]
        refine partsI_yield0 (v := .bool true) (by simp only [List.getElem?_toArray, List.getElem?_cons_zero, List.getElem?_cons_succ]; rfl) ?_ ?_
        · exact Or.inl ⟨by rfl, fun W hW => by go_simp⟩
        simp only [Act.put, sgPHCmAwake]
        refine partsI_yield0 (v := .bool true) (by simp only [List.getElem?_toArray, List.getElem?_cons_zero, List.getElem?_cons_succ]; rfl) ?_ ?_
        · exact Or.inl ⟨by rfl, fun W hW => by go_simp⟩
        simp only [Act.put, sgPHCmAwake]
        refine partsI_force ?_
        simp only [sgLHCmAwake]
        (refine wpList_store_row (by rfl) 32 _ _ (by rfl) (w.heap.size) (sdC (some g) (some rg) (some st) (some a) (some b) 3 (n : Int)) (by rfl) (by rfl) 32 (_) (by exact HX7.out) (sizeSd.trans (by rw [sdC_size])) (by simp only [sdC_size]) (sdC_all _ _ _ _ _ _ _) ?_; simp only [Act.put, sgPHCmAwake])
        go_wp2_with fail
        refine ⟨rfl, ⟨hS1.1.other _ (by have := H5.out.2.1; omega), hS1.2.other _ (by have := HA26.out; omega)⟩, ?_⟩
        refine partsI_last ?_
        simp only [sgLHCmAwake]
        go_wp2_with fail
        refine ⟨rfl, ?_⟩
        go_wp2_with fail
        try simp only [Exit.inBlock, Exit.then]
        refine bodyPost_ret (results_row2 Tryz.results5 _ _ w.heap.size 32 (sdC (some g) (some rg) (some st) (some a) (some b) 3 (n : Int)) (0, 0) _ rfl (HX7.out.set _) Tryz.underlying32 rfl (sizeSd.trans (by rw [sdC_size]))) rfl ?_
        exact ⟨w5.heap.size, g, c, mc, rg, mr, xg, mf, ml, mm, rm, st, lg20, F8, q20, v20, qq, cq, t, m, s, a, b, rfl, Bgn.of HG6.out.1 HG6.out.2 HSL.out (fun b hb => setRow_other _ _ b _ (by have := H5.out.1.1.lt; omega)) H5.out.2.2.size (below_setRow (H5.out.2.2.trans (HG6.out.1.below.mono H5.out.2.2.size)) (Nat.le_refl _) _) HAT.out.1 HAT.out.2⟩
end Go.Proofs.YtppagdmlfgialaaGreatDoor

namespace Go.Proofs.YtppagdmlfgialaaGreatDoor
open Go Go.RowKit
set_option linter.unusedSimpArgs false
set_option linter.unusedVariables false
theorem Bgn.keep {w wx wy : World} {n B g c mc rg mr xg mf ml mm rm st lg : Nat} {ca : Int} {lp : Option Addr} {F : Nat → Nat} {q : QD} {v : Value} {qq : Option Addr} {cq : Nat} {t m s : Rf} (h : Bgn w wx n B g c mc rg mr xg mf ml mm rm st lg ca lp F q v qq cq t m s) (hb : Below wx.heap.size wx wy) : Bgn w wy n B g c mc rg mr xg mf ml mm rm st lg ca lp F q v qq cq t m s :=
  ⟨h.lo, h.rd.below hb, h.qu, h.ca.below hb h.ca.lt, h.cm.below hb h.cm.lt, h.ro.below hb, h.ix.below hb h.ix.lt, h.st.below hb h.st.lt, h.at_, h.ok, h.below.trans (hb.mono h.below.size)⟩
theorem sl_field0 (s : Sl) (w : World) : (Instr.field 43 (.agg (slC s)) 0).run Tryz.prog w = .ok (.int .u64 ((s.1 : Nat) : Int)) w := by kernel_rfl
set_option maxRecDepth 100000 in
set_option maxHeartbeats 16000000 in
theorem awake21_any (w : World) : Calls Tryz.prog 6 #[] w fun e w' => e = .returned (.bool true) ∧ Below w.heap.size w w' := by
  have HBg : Hid (∀ w : World, Calls Tryz.prog 5 #[.int .i64 64, .int .i64 0, .pointer none] w fun e w' => BegunP w 64 0 none e w') := fun w => begun21_any 64 (by decide) (by decide) 0 (by decide) (by decide) none w
  have hz := zero_sd
  go_enter Tryz.func6, Tryz.ntmps6
  go_wp2_with fail
  refine (HBg.out w).mono ?_
  rintro e w1 ⟨B, g, c, mc, rg, mr, xg, mf, ml, mm, rm, st, lg, F, q, v, qq, cq, t, m, s, a, b, rfl, hB⟩
  have r0 : Blk (w1.alloc (.cells (sdC none none none none none 0 0) 32)) w1.heap.size 32 (sdC none none none none none 0 0) := Blk.new _ _ _
  have hb2 : Below w1.heap.size w1 ((w1.alloc (.cells (sdC none none none none none 0 0) 32)).setRow w1.heap.size (sdC (some g) (some rg) (some st) (some a) (some b) 3 ((64 : Nat) : Int))) := below_setRow (below_new1 _ _) (Nat.le_refl _) _
  have HS : Hid (Blk ((w1.alloc (.cells (sdC none none none none none 0 0) 32)).setRow w1.heap.size (sdC (some g) (some rg) (some st) (some a) (some b) 3 ((64 : Nat) : Int))) w1.heap.size 32 (sdC (some g) (some rg) (some st) (some a) (some b) 3 ((64 : Nat) : Int)) ∧ Blk ((w1.alloc (.cells (sdC none none none none none 0 0) 32)).setRow w1.heap.size (sdC (some g) (some rg) (some st) (some a) (some b) 3 ((64 : Nat) : Int))) st 62 (stC (some ⟨rg, 0, none⟩) (some ⟨c, 0, none⟩) (1, s) (suFr 64 t m) (some ⟨rm, 0, none⟩) (some ⟨xg, 0, none⟩) qq 1 cq false) ∧ Below w.heap.size w ((w1.alloc (.cells (sdC none none none none none 0 0) 32)).setRow w1.heap.size (sdC (some g) (some rg) (some st) (some a) (some b) 3 ((64 : Nat) : Int)))) := ⟨r0.set _, hB.st.below hb2 hB.st.lt, hB.below.trans (hb2.mono hB.below.size)⟩
  clear hB hb2 HBg
  go_upto_region 2 with (first
    | (refine wpList_store_row (by rfl) 32 _ _ (by rfl) (w1.heap.size) ((sdC (some g) (some rg) (some st) (some a) (some b) 3 ((64 : Nat) : Int))) (by rfl) (by rfl) 32 (_) (by exact r0) (sizeSd.trans (by rw [sdC_size])) (by simp only [sdC_size]) (sdC_all _ _ _ _ _ _ _) ?_; simp only [Act.put, sgPHCmAwake])
    | fail)
  clear r0 hz
  generalize ((w1.alloc (.cells (sdC none none none none none 0 0) 32)).setRow w1.heap.size (sdC (some g) (some rg) (some st) (some a) (some b) 3 ((64 : Nat) : Int))) = w2 at *
  generalize w1.heap.size = a1 at *
  have c2 : w2.cell? ⟨a1, 2, none⟩ = some (.pointer (some ⟨st, 0, none⟩)) := HS.out.1.cell 2
  go_wp2_with fail
  refine (stSlot_at w2 HS.out.2.1).mono ?_
  rintro e w3 ⟨rfl, hb3⟩
  have hf := sl_field0 (1, s)
  have c3 : w3.cell? ⟨a1, 2, none⟩ = some (.pointer (some ⟨st, 0, none⟩)) := (HS.out.1.below hb3 HS.out.1.lt).cell 2
  have HS3 : Hid (Blk w3 st 62 (stC (some ⟨rg, 0, none⟩) (some ⟨c, 0, none⟩) (1, s) (suFr 64 t m) (some ⟨rm, 0, none⟩) (some ⟨xg, 0, none⟩) qq 1 cq false) ∧ Below w.heap.size w w3) := ⟨HS.out.2.1.below hb3 HS.out.2.1.lt, HS.out.2.2.trans (hb3.mono HS.out.2.2.size)⟩
  clear c2 HS hb3
  go_wp2_with fail
  refine (stStamp_at rfl w3 HS3.out.1).mono ?_
  rintro e _ ⟨rfl, rfl⟩
  go_wp2_with fail
  refine (stDead_at w3 HS3.out.1).mono ?_
  rintro e _ ⟨rfl, rfl⟩
  go_wp2_with fail
  go_ret
  exact ⟨rfl, HS3.out.2⟩
end Go.Proofs.YtppagdmlfgialaaGreatDoor
