/- Roots: as plain things, their cells, how two compare. -/
import Derived.Test.YtppagdmlfgialaaGreatDoorHDkWrite
import Derived.Test.YtppagdmlfgialaaGreatDoorHNdKit
import Derived.Deep.DeepCutAuto
import Derived.Deep.Cut
import Derived.Handy
import Derived.Test.YtppagdmlfgialaaGreatDoorHLvStep
import Derived.Test.YtppagdmlfgialaaGreatDoorHSegsP
import Derived.Test.YtppagdmlfgialaaGreatDoorHDkKeep
import Derived.Test.YtppagdmlfgialaaGreatDoorHIntMap
import Derived.Test.YtppagdmlfgialaaGreatDoorHBlkGrp

namespace Go.Proofs.YtppagdmlfgialaaGreatDoor
open Go Go.RowKit
set_option linter.unusedSimpArgs false
set_option linter.unusedVariables false

/-- the bytes of a disk of which the first i blocks were laid -/
def loadF (L : Nat → Nat → Nat) (F : Nat → Nat) (i : Nat) : Nat → Nat := fun x => if x / 256 < i then L (x / 256) (x % 256) else F x
theorem loadF_zero (L : Nat → Nat → Nat) (F : Nat → Nat) : loadF L F 0 = F := by
  funext x
  unfold loadF
  rw [if_neg (by omega)]
theorem loadF_put (L : Nat → Nat → Nat) (F : Nat → Nat) (i : Nat) : putAt (loadF L F i) (i * 256) 256 (L i) = loadF L F (i + 1) := by
  funext x
  unfold putAt loadF
  by_cases h : i * 256 ≤ x ∧ x < i * 256 + 256
  · rw [if_pos h, if_pos (by omega), show x / 256 = i by omega, show x % 256 = x - i * 256 by omega]
  · rw [if_neg h]
    by_cases h2 : x / 256 < i
    · rw [if_pos h2, if_pos (by omega)]
    · rw [if_neg h2, if_neg (by omega)]
section
variable {B g N : Nat} {q : QD}
set_option maxRecDepth 100000 in
set_option maxHeartbeats 4000000 in
theorem load_q (F : Nat → Nat) (L : Nat → Nat → Nat) (b cap : Nat) (h16 : 0 < N) (hN : N ≤ 8192) (hl : ∀ a : Nat, findIn ((0 : Int), (a : Int)) q.l = none) (hG : ∀ j, q.G.getD j [] = []) (hbf : ¬ foot g N q b) (w : World) (hB : B ≤ w.heap.size) (hq : DiskQ w B g N F 0 0 q) (hI : IsBlks w (some ⟨b, 0, none⟩) N L) :
    Calls Tryz.prog 21 #[.pointer (some ⟨g, 0, none⟩), .slice (some ⟨b, 0, none⟩) N cap] w fun e w' => e = .returned (.int .i64 0) ∧ ∃ l G ss, DiskQ w' B g N (loadF L F N) 0 0 { q with l := l, G := G, ss := ss } ∧ Moved g N q { q with l := l, G := G, ss := ss } w w' := by
  have hz := zero_bk
  have hLay : Hid (∀ (i : Nat) (l : List ((Int × Int) × Vector Nat 256)) (G : List (List Nat)) (ss : List Value) (W : World), i < N → findIn ((0 : Int), (i : Int)) l = none → G.getD i [] = [] → B ≤ W.heap.size → DiskQ W B g N (loadF L F i) 0 0 { q with l := l, G := G, ss := ss } → Calls Tryz.prog 51 #[.pointer (some ⟨g, 0, none⟩), .int .i64 (i : Int), .agg (va 256 (iv .u8 (L i)))] W fun e w' => e = .returned (.tuple #[]) ∧ ∃ l' G' ss', DiskQ w' B g N (loadF L F (i + 1)) 0 0 { q with l := l', G := G', ss := ss' } ∧ Moved g N { q with l := l, G := G, ss := ss } { q with l := l', G := G', ss := ss' } W w' ∧ (∀ a : Nat, a ≠ i → findIn ((0 : Int), (a : Int)) l' = findIn ((0 : Int), (a : Int)) l) ∧ (∀ j, j ≠ i → G'.getD j [] = G.getD j [])) := fun i l G ss W hi h1 h2 h3 h4 => by
    have := lay_q2 (k := 0) i (L i) hi hN h1 (show (G.getD i []).length < 0 + 1 by rw [h2]; decide) (by decide) W h3 h4
    rw [loadF_put] at this
    exact this
  have HI : Hid (∀ i, i < N → b < w.heap.size ∧ w.rangeAt b (i * 256) ((List.range 256).map (iv .u8 (L i)))) := fun i hi => by
    obtain ⟨b', o', e, h1, h2⟩ := hI i hi
    injection e with e
    injection e with e1 e2
    subst e1 e2
    rw [Nat.zero_add] at h2
    exact ⟨h1, h2⟩
  have c0 : w.cell? ⟨g, 0, none⟩ = some (.slice (some ⟨q.gn, 0, none⟩) N N) := by rw [hq.cells.cell]; rfl
  have HQ0 : Hid (DiskQ w B g N F 0 0 q) := hq
  have HBF : Hid (¬ foot g N q b) := hbf
  have HBW : Hid (B ≤ w.heap.size) := hB
  have HL0 : Hid (∀ a : Nat, findIn ((0 : Int), (a : Int)) q.l = none) := hl
  have HG0 : Hid (∀ j, q.G.getD j [] = []) := hG
  clear hq hI hbf hB hl hG
  go_enter Tryz.func21, Tryz.ntmps21
  go_wp2_with fail
  go_loopw [21] (fun t wr => ∃ (i : Nat) (l : List ((Int × Int) × Vector Nat 256)) (G : List (List Nat)) (ss : List Value), i ≤ N ∧ t = .int .i64 (i : Int) ∧ DiskQ wr B g N (loadF L F i) 0 0 { q with l := l, G := G, ss := ss } ∧ Moved g N q { q with l := l, G := G, ss := ss } w wr ∧ (∀ a : Nat, i ≤ a → findIn ((0 : Int), (a : Int)) l = none) ∧ (∀ j, i ≤ j → G.getD j [] = [])) (fun t _ => N - (intOf t).toNat)
  case atStart =>
    exact ⟨0, q.l, q.G, q.ss, Nat.zero_le _, rfl, by rw [loadF_zero]; exact HQ0.out, .of_below (Below.refl _ _), fun a _ => HL0.out a, fun j _ => HG0.out j⟩
  case round =>
    obtain ⟨i, l, G, ss, hi, rfl, hq, hm, h1, h2⟩ := hrel
    have HQ : Hid (DiskQ wr B g N (loadF L F i) 0 0 { q with l := l, G := G, ss := ss }) := hq
    have HM : Hid (Moved g N q { q with l := l, G := G, ss := ss } w wr) := hm
    have H1 : Hid (∀ a : Nat, i ≤ a → findIn ((0 : Int), (a : Int)) l = none) := h1
    have H2 : Hid (∀ j, i ≤ j → G.getD j [] = []) := h2
    clear hq hm h1 h2 c0
    by_cases hlt : i < N
    · have k0 : (0 : Int) ≤ (i : Int) := by omega
      have k1 : (i : Int) < (N : Int) := by omega
      have HR : Hid (wr.rangeAt b (i * 256) ((List.range 256).map (iv .u8 (L i)))) := fun j v hv => by
        rw [← (HI.out i hlt).2 j v hv]
        simp only [World.cell?, HM.out.1.block b (HI.out i hlt).1 HBF.out]
      have q0 := Blk.new wr 141 (va 256 (iv .u8 fun _ => 0))
      have r0 := q0.set (va 256 (iv .u8 (L i)))
      have HB1 : Hid (Below wr.heap.size wr ((wr.alloc (.cells (va 256 (iv .u8 fun _ => 0)) 141)).setRow wr.heap.size (va 256 (iv .u8 (L i))))) := below_setRow (below_new1 _ _) (Nat.le_refl _) _
      have hix : i * 256 < 9223372036854775808 := by omega
      go_wp2_with (first
        | (refine wpList_load_blk (by rfl) 141 _ (by rfl) (b) (i * 256) 256 (iv .u8 (L i)) (by rfl) _ (by exact HR.out) Tryz.underlying141 rfl sizeBk ?_; simp only [Act.put, List.setIfInBounds_toArray, List.set_cons_zero, List.set_cons_succ])
        | (refine wpList_store_row (by rfl) 141 _ _ (by rfl) (wr.heap.size) (va 256 (iv .u8 (L i))) (by rfl) (by rfl) 141 (_) (by exact q0) (sizeBk.trans (by rw [va_size])) (by simp only [va_size]) (iv_one _ _ _) ?_; simp only [Act.put, List.setIfInBounds_toArray, List.set_cons_zero, List.set_cons_succ])
        | (refine wpList_load_rowg (by rfl) 141 _ (by rfl) (wr.heap.size) (by rfl) 141 (va 256 (iv .u8 (L i))) (0, 0) _ (by exact r0) Tryz.underlying141 (by rfl) (sizeBk.trans (by rw [va_size])) ?_; simp only [Act.put, List.setIfInBounds_toArray, List.set_cons_zero, List.set_cons_succ])
        | fail)
      refine (hLay.out i l G ss ((wr.alloc (.cells (va 256 (iv .u8 fun _ => 0)) 141)).setRow wr.heap.size (va 256 (iv .u8 (L i)))) hlt (H1.out i (Nat.le_refl _)) (H2.out i (Nat.le_refl _)) (Nat.le_trans HBW.out (Nat.le_trans HM.out.1.size HB1.out.size)) (HQ.out.below HB1.out)).mono ?_
      rintro e w2 ⟨rfl, l', G', ss', hq2, hm2, h3, h4⟩
      have HQ2 : Hid (DiskQ w2 B g N (loadF L F (i + 1)) 0 0 { q with l := l', G := G', ss := ss' }) := hq2
      have HM2 : Hid (Moved g N q { q with l := l', G := G', ss := ss' } w w2) := HM.out.trans ((Moved.of_below HB1.out).trans hm2)
      have H3 : Hid (∀ a : Nat, i + 1 ≤ a → findIn ((0 : Int), (a : Int)) l' = none) := fun a ha => by rw [h3 a (by omega)]; exact H1.out a (by omega)
      have H4 : Hid (∀ j, i + 1 ≤ j → G'.getD j [] = []) := fun j hj => by rw [h4 j (by omega)]; exact H2.out j (by omega)
      clear hq2 hm2 h3 h4 HQ HM H1 H2 q0 r0 HB1 HR hLay
      go_wp2_with fail
      refine ⟨⟨i + 1, l', G', ss', by omega, by simp, HQ2.out, HM2.out, H3.out, H4.out⟩, ?_⟩
      simp [intOf]
      omega
    · obtain rfl : i = N := by omega
      go_wp2_with fail
      go_ret
      exact ⟨rfl, l, G, ss, HQ.out, HM.out⟩
end
end Go.Proofs.YtppagdmlfgialaaGreatDoor

namespace Go.Proofs.YtppagdmlfgialaaGreatDoor
open Go Go.RowKit
set_option linter.unusedSimpArgs false
set_option linter.unusedVariables false

theorem byL_apX (X : Nat → Nat) (n : Nat) (f : Nat → Nat) : byL (apX X n f) ((n + 1) * 256) = byL X (n * 256) ++ (va 256 (iv .u8 f)).toList := by
  rw [show (n + 1) * 256 = n * 256 + 256 by omega, byL_add, va_byL9]
  congr 1
  · unfold byL
    refine List.map_congr_left fun j hj => ?_
    show Value.int .u8 (((if j < n * 256 then X j else f (j - n * 256) : Nat)) : Int) = _
    rw [if_pos (List.mem_range.1 hj)]
  · unfold byL
    refine List.map_congr_left fun j hj => ?_
    show Value.int .u8 (((if n * 256 + j < n * 256 then X (n * 256 + j) else f (n * 256 + j - n * 256) : Nat)) : Int) = _
    rw [if_neg (by omega), show n * 256 + j - n * 256 = j by omega]
theorem wpList_append_bk {P : Program} {ops : Array Oper} {rest : List Oper} {o : Oper} {a : Act} {w : World} {Q : Exit → Act → World → Prop} (hgd : o.guard = none) (s x : Operand) (t : TypeId)
    (ho : o.op = .call { callee := .builtin .append, args := #[s, x], argTypes := #[t, t] }) (B : Nat) (e : TypeId) (i : TypeInfo) (z : Value) (ht : P.underlying t = some (.slice e)) (hi : P.info? e = some i) (hz : i.zero = some z) (hsize : i.size = 256) (hby : i.bytes = 256) (hzs : z.cells.size = 256)
    (v : Value) (n : Nat) (X f : Nat → Nat) (hs : a.eval s = v) (hown : w.ownsRow B e 256 v n (byL X (n * 256))) (g c : Nat) (hx : a.eval x = .slice (some ⟨g, 0, none⟩) 1 c) (hg : Blk w g e (va 256 (iv .u8 f))) (hn : n ≤ 100000) (hbase : B ≤ w.heap.size)
    (h : ∀ v' w', w'.ownsRow B e 256 v' (n + 1) (byL (apX X n f) ((n + 1) * 256)) → Below B w w' → w.grownBy w' v.ownBlock → (v'.ownBlock = v.ownBlock ∨ v'.ownBlock = some w.heap.size) → wpList P ops Q rest (a.put o.dst v') w') : wpList P ops Q (o :: rest) a w := by
  refine wpList_append_own_at hgd s x t ho B e i z 256 256 ht hi hz hsize hby hzs (by decide) v n _ hs hown ⟨g, 0, none⟩ 1 c (va 256 (iv .u8 f)).toList hx (by simp [va_size]) (fun j u hu => ?_) (arr_mem (iv_one _ _ _)) (by unfold maxLen; omega) (by omega) hbase fun v' w' h1 h2 h3 => ?_
  · rw [Addr.add_mid, hg.cell]
    rw [Array.getElem?_toList] at hu
    simpa using hu
  · rw [← byL_apX] at h1
    refine h v' w' h1 ((Below.refl _ _).grown h2 hbase fun k hk => ?_) h2 h3
    rcases hown.2 with ⟨rfl, _⟩ | ⟨b, cap, cur, rfl, hb, _⟩
    · cases hk
    · cases hk
      exact hb
theorem made_bk9 (n : Nat) : madeCells (va 256 (iv .u8 fun _ => 0)) (n * 256) = va (n * 256) (iv .u8 fun _ => 0) :=
  made_const _ _ 256 (va_size _ _) (by decide) (fun j hj => va_at (iv .u8 fun _ => 0) hj) _
theorem make_img (w : World) : (Instr.makeSlice 65 (.int .i64 1) (.int .i64 1)).run Tryz.prog w = .ok (.slice (some ⟨w.heap.size, 0, none⟩) 1 1) (w.alloc (.cells (va 256 (iv .u8 fun _ => 0)) 121)) := by
  obtain ⟨i0, hi, hz0, hz1, hz2⟩ := tinfo_parts info256
  have := run_make (P := Tryz.prog) w 65 121 i0 (.agg (va 256 (iv .u8 fun _ => 0))) Tryz.underlying65 hi hz0 .i64 .i64 ((1 : Nat) : Int) ((1 : Nat) : Int) (by omega) (Int.le_refl _) (by rw [hz2]; omega) (by omega)
  rw [hz1] at this
  simp only [Int.toNat_natCast, Value.cells, made_bk9] at this
  exact this
theorem img_one {w : World} {B g : Nat} (h : Blk w g 121 (va 256 (iv .u8 fun _ => 0))) (hB : B ≤ g) : Img w B (.slice (some ⟨g, 0, none⟩) 1 1) 1 fun _ => 0 := by
  refine ⟨⟨by simp [byL_length], .inr ⟨g, 1, _, rfl, hB, h, Nat.le_refl _, by unfold maxLen; omega, by rw [va_size], ?_⟩⟩, fun _ => Nat.zero_lt_succ _, Nat.le_refl _⟩
  rw [← va_byL9]
  refine List.take_of_length_le ?_
  simp [va_size]
/-- an image's block is none of another type -/
theorem Img.apart {w : World} {B n k u : Nat} {v : Value} {X : Nat → Nat} {cs : Array Value} (h : Img w B v n X) (hk : Blk w k u cs) (hu : 121 ≠ u) : some k ≠ v.ownBlock := fun e => by
  obtain ⟨b, cap, rfl, _, _, _⟩ := own_some h.1 h.2.2
  rcases h.1.2 with ⟨h1, _⟩ | ⟨b', cap', cur, h1, _, hbb, _⟩
  · cases h1
  · injection h1 with h1
    injection h1 with h1
    injection h1 with h1
    subst h1
    have : k = b := Option.some.inj e
    subst this
    exact blk_apart hbb hk hu rfl
theorem img_cell {w : World} {B b cap n : Nat} {X : Nat → Nat} (h : Img w B (.slice (some ⟨b, 0, none⟩) n cap) n X) (j : Nat) (hj : j < n * 256) : w.cell? ⟨b, j, none⟩ = some (.int .u8 ((X j : Nat) : Int)) := by
  obtain ⟨b', cap', hv, _, _, hc⟩ := own_some h.1 h.2.2
  injection hv with hv
  injection hv with hv
  injection hv with hv
  subst hv
  have := hc j _ (byL_at X (n * 256) j hj)
  rw [Addr.add_mid, Nat.zero_add] at this
  exact this
theorem img_blks {w : World} {B b cap n : Nat} {X : Nat → Nat} (h : Img w B (.slice (some ⟨b, 0, none⟩) n cap) n X) : IsBlks w (some ⟨b, 0, none⟩) n fun i => blkAt X i := by
  intro i hi
  obtain ⟨b', cap', hv, _, hlt, _⟩ := own_some h.1 h.2.2
  injection hv with hv
  injection hv with hv
  injection hv with hv
  subst hv
  refine ⟨b, 0, rfl, hlt, fun j v hj => ?_⟩
  have hj2 : j < 256 := by
    have := (List.getElem?_eq_some_iff.1 hj).1
    simpa using this
  rw [show 0 + i * 256 + j = i * 256 + j by omega, img_cell h _ (by omega), ← hj]
  simp [hj2, iv, blkAt]
/-- the blocks that were appended, so far -/
def preX (X : Nat → Nat) (j : Nat) : Nat → Nat := fun x => if x < j * 256 then X x else 0
theorem pre_ap (X : Nat → Nat) (j : Nat) : byL (apX (preX X j) j (blkAt X j)) ((j + 1) * 256) = byL (preX X (j + 1)) ((j + 1) * 256) := by
  unfold byL
  refine List.map_congr_left fun x hx => ?_
  have hx2 := List.mem_range.1 hx
  have e : apX (preX X j) j (blkAt X j) x = preX X (j + 1) x := by
    unfold apX preX blkAt
    by_cases h : x < j * 256
    · rw [if_pos h, if_pos h, if_pos hx2]
    · rw [if_neg h, if_pos hx2]
      congr 1
      omega
  rw [e]
theorem own_blks9 {w : World} {B e g cap n : Nat} {X : Nat → Nat} (h : w.ownsRow B e 256 (.slice (some ⟨g, 0, none⟩) n cap) n (byL (preX X n) (n * 256))) : IsBlks w (some ⟨g, 0, none⟩) n fun i => blkAt X i := by
  intro i hi
  obtain ⟨b', cap', hv, _, hlt, hc⟩ := own_some h (by omega)
  injection hv with hv
  injection hv with hv
  injection hv with hv
  subst hv
  refine ⟨g, 0, rfl, hlt, fun j v hj => ?_⟩
  have hj2 : j < 256 := by
    have := (List.getElem?_eq_some_iff.1 hj).1
    simpa using this
  have h1 := hc (i * 256 + j) _ (byL_at _ _ _ (by omega))
  rw [Addr.add_mid, Nat.zero_add] at h1
  rw [show 0 + i * 256 + j = i * 256 + j by omega, h1, ← hj]
  simp [hj2, iv, blkAt, preX, show i * 256 + j < n * 256 by omega]
/-- how long a slice is -/
def imN : Value → Nat
  | .slice _ n _ => n
  | _ => 0
end Go.Proofs.YtppagdmlfgialaaGreatDoor

namespace Go.Proofs.YtppagdmlfgialaaGreatDoor
open Go Go.RowKit
set_option linter.unusedSimpArgs false
set_option linter.unusedVariables false
/-- an inode: kind, links, size, stamp, the height and root of its tree -/
structure Ino where
  k : Int
  l : Int
  s : Int
  t : Nat
  h : Int
  r : Rf
  deriving DecidableEq
def in0 : Ino := ⟨0, 0, 0, 0, 0, rf0⟩
/-- what any inode is that can stand in the memory -/
structure InW (x : Ino) : Prop where
  k : -9223372036854775808 ≤ x.k ∧ x.k ≤ 9223372036854775807
  l : -9223372036854775808 ≤ x.l ∧ x.l ≤ 9223372036854775807
  s : -9223372036854775808 ≤ x.s ∧ x.s ≤ 9223372036854775807
  t : x.t < 18446744073709551616
  h : -9223372036854775808 ≤ x.h ∧ x.h ≤ 9223372036854775807
  a : x.r.1 < 4294967296
  d : okD x.r.2
def tiF (h : Int) (r : Rf) : Nat → Value := fun i => if i = 0 then .int .i64 h else rfF r.1 r.2 (i - 1)
def tiC (h : Int) (r : Rf) : Array Value := va 34 (tiF h r)
def inF (x : Ino) : Nat → Value := fun i => if i = 0 then .int .i64 x.k else if i = 1 then .int .i64 x.l else if i = 2 then .int .i64 x.s else if i = 3 then .int .u64 ((x.t : Nat) : Int) else tiF x.h x.r (i - 4)
def inC (x : Ino) : Array Value := va 38 (inF x)
theorem inC_size (x : Ino) : (inC x).size = 38 := va_size _ _
theorem tiF_one (h : Int) (r : Rf) (i : Nat) : (tiF h r i).oneCell' = true := by
  unfold tiF
  split
  · rfl
  · exact rfF_one _ _ _
theorem in_tree (x : Ino) : (inC x).extract 4 (4 + 34) = tiC x.h x.r := by
  unfold inC tiC
  rw [va_extract 38 4 34 _ (by decide)]
  refine va_congr fun i hi => ?_
  unfold inF
  rw [if_neg (by omega), if_neg (by omega), if_neg (by omega), if_neg (by omega), show 4 + i - 4 = i by omega]
theorem ti_ref (h : Int) (r : Rf) : (tiC h r).extract 1 (1 + 33) = rfC r := by
  unfold tiC rfC
  rw [va_extract 34 1 33 _ (by decide)]
  refine va_congr fun i hi => ?_
  unfold tiF
  rw [if_neg (by omega), show 1 + i - 1 = i by omega]
theorem in_ref (x : Ino) : (inC x).extract 5 (5 + 33) = rfC x.r := by
  unfold inC rfC
  rw [va_extract 38 5 33 _ (by decide)]
  refine va_congr fun i hi => ?_
  unfold inF tiF
  rw [if_neg (by omega), if_neg (by omega), if_neg (by omega), if_neg (by omega), if_neg (by omega), show 5 + i - 4 - 1 = i by omega]
theorem sizeRIno : (Tryz.prog.info? 116).map (·.size) = some 38 := by kernel_rfl
theorem sizeTi : (Tryz.prog.info? 46).map (·.size) = some 34 := by kernel_rfl
theorem sizeRTr : (Tryz.prog.info? 72).map (·.size) = some 34 := by kernel_rfl
theorem sizeRRf : (Tryz.prog.info? 70).map (·.size) = some 33 := by kernel_rfl
theorem zero_rino (w : World) : (zeroValue 116).run Tryz.prog w = .ok (.agg (inC in0)) w := zero_of (by kernel_rfl) w
theorem zero_rrf (w : World) : (zeroValue 70).run Tryz.prog w = .ok (.agg (rfC rf0)) w := zero_of (by kernel_rfl) w
/-- fields compared one by one -/
theorem eqF_cons {P : Program} {w : World} {d : Nat} {f : Field} {fs : List Field} {t o : Nat} {cs ds : Array Value} {x y : Value} {b B : Bool} (hf : (f.name == "_", f.type, f.offset) = (false, t, o)) (p : (part t cs o).run P w = .ok x w) (q : (part t ds o).run P w = .ok y w)
    (h : (Op.equalIn d t x y).run P w = .ok b w) (hr : (Op.eqFields d cs ds fs).run P w = .ok B w) : (Op.eqFields d cs ds (f :: fs)).run P w = .ok (b && B) w := by
  simp only [Prod.mk.injEq] at hf
  obtain ⟨n1, rfl, rfl⟩ := hf
  have n1' : f.name ≠ "_" := by simpa using n1
  unfold Op.eqFields
  rw [if_pos n1']
  simp only [Sem.run_bind, p, q, Result.andThen_ok, h]
  cases b
  · simp
  · simp only [Bool.not_true, Bool.false_eq_true, if_false, hr, Bool.true_and]
theorem run_eq_five {P : Program} {w : World} {d : Nat} {t t1 t2 t3 t4 t5 o1 o2 o3 o4 o5 : Nat} {cs ds : Array Value} {x1 y1 x2 y2 x3 y3 x4 y4 x5 y5 : Value} {b1 b2 b3 b4 b5 : Bool} (hu : P.underlying t = some (.struct (P.fieldsOf t))) (hp : P.stoodInHeld t = false)
    (hf : (P.fieldsOf t).toList.map (fun f => (f.name == "_", f.type, f.offset)) = [(false, t1, o1), (false, t2, o2), (false, t3, o3), (false, t4, o4), (false, t5, o5)])
    (p1 : (part t1 cs o1).run P w = .ok x1 w) (q1 : (part t1 ds o1).run P w = .ok y1 w) (p2 : (part t2 cs o2).run P w = .ok x2 w) (q2 : (part t2 ds o2).run P w = .ok y2 w) (p3 : (part t3 cs o3).run P w = .ok x3 w) (q3 : (part t3 ds o3).run P w = .ok y3 w)
    (p4 : (part t4 cs o4).run P w = .ok x4 w) (q4 : (part t4 ds o4).run P w = .ok y4 w) (p5 : (part t5 cs o5).run P w = .ok x5 w) (q5 : (part t5 ds o5).run P w = .ok y5 w)
    (h1 : (Op.equalIn d t1 x1 y1).run P w = .ok b1 w) (h2 : (Op.equalIn d t2 x2 y2).run P w = .ok b2 w) (h3 : (Op.equalIn d t3 x3 y3).run P w = .ok b3 w) (h4 : (Op.equalIn d t4 x4 y4).run P w = .ok b4 w) (h5 : (Op.equalIn d t5 x5 y5).run P w = .ok b5 w) :
    (Op.equalIn (d + 1) t (.agg cs) (.agg ds)).run P w = .ok (b1 && (b2 && (b3 && (b4 && (b5 && true))))) w := by
  rw [run_equalIn_struct w d t cs ds hu hp]
  obtain ⟨f1, l1, e1, hf1, hl1⟩ := List.map_eq_cons_iff.1 hf
  obtain ⟨f2, l2, e2, hf2, hl2⟩ := List.map_eq_cons_iff.1 hl1
  obtain ⟨f3, l3, e3, hf3, hl3⟩ := List.map_eq_cons_iff.1 hl2
  obtain ⟨f4, l4, e4, hf4, hl4⟩ := List.map_eq_cons_iff.1 hl3
  obtain ⟨f5, l5, e5, hf5, hl5⟩ := List.map_eq_cons_iff.1 hl4
  have e6 := List.map_eq_nil_iff.1 hl5
  subst e6 e5 e4 e3 e2
  rw [e1]
  exact eqF_cons hf1 p1 q1 h1 (eqF_cons hf2 p2 q2 h2 (eqF_cons hf3 p3 q3 h3 (eqF_cons hf4 p4 q4 h4 (eqF_cons hf5 p5 q5 h5 (by simp [Op.eqFields])))))
theorem eq_rrf (d : Nat) (a b : Rf) (w : World) : (Op.equalIn (d + 1 + 1 + 1) 70 (.agg (rfC a)) (.agg (rfC b))).run Tryz.prog w = .ok (decide (a = b)) w := by
  have h1 : (Op.equalIn (d + 1 + 1) 37 (.int .u32 (a.1 : Int)) (.int .u32 (b.1 : Int))).run Tryz.prog w = .ok ((a.1 : Int) == (b.1 : Int)) w := by simp [Op.equalIn, run_underlying Tryz.underlying37]
  have h2 := eq_digAt d 38 Tryz.underlying38 a.2 b.2 w
  have hd : decide (a = b) = (((a.1 : Int) == (b.1 : Int)) && decide (a.2 = b.2)) := by
    obtain ⟨a1, a2⟩ := a
    obtain ⟨b1, b2⟩ := b
    rw [Bool.eq_iff_iff]
    simp only [decide_eq_true_eq, Bool.and_eq_true, beq_iff_eq, Prod.mk.injEq]
    constructor
    · rintro ⟨h, k⟩
      exact ⟨by omega, k⟩
    · rintro ⟨h, k⟩
      exact ⟨by omega, k⟩
  rw [hd]
  have p1 : (part 37 (rfC a) 0).run Tryz.prog w = .ok (.int .u32 ((a.1 : Nat) : Int)) w := part_int _ _ Tryz.underlying37 _ _ _ (va_at (rfF a.1 a.2) (by decide)) w
  have q1 : (part 37 (rfC b) 0).run Tryz.prog w = .ok (.int .u32 ((b.1 : Nat) : Int)) w := part_int _ _ Tryz.underlying37 _ _ _ (va_at (rfF b.1 b.2) (by decide)) w
  have p2 : (part 38 (rfC a) 1).run Tryz.prog w = .ok (dK a.2) w := part_sum32 a.1 a.2 w
  have q2 : (part 38 (rfC b) 1).run Tryz.prog w = .ok (dK b.2) w := part_sum32 b.1 b.2 w
  generalize rfC a = cs at *
  generalize rfC b = ds at *
  have hu : Tryz.prog.underlying 70 = some (.struct (Tryz.prog.fieldsOf 70)) := by kernel_rfl
  have hp : Tryz.prog.stoodInHeld 70 = false := by kernel_rfl
  have hf : (Tryz.prog.fieldsOf 70).toList.map (fun f => (f.name == "_", f.type, f.offset)) = [(false, 37, 0), (false, 38, 1)] := by kernel_rfl
  exact run_eq_two hu hp hf p1 q1 p2 q2 h1 h2
theorem eq_inoAt (t tt tr : TypeId) (ut ur : TypeDesc) (hut : Tryz.prog.underlying tt = some ut) (htr : ut.isRow = true) (hst : (Tryz.prog.info? tt).map (·.size) = some 34) (hur : Tryz.prog.underlying tr = some ur) (hrr : ur.isRow = true) (hsr : (Tryz.prog.info? tr).map (·.size) = some 33)
    (hu : Tryz.prog.underlying t = some (.struct (Tryz.prog.fieldsOf t))) (hp : Tryz.prog.stoodInHeld t = false)
    (hf : (Tryz.prog.fieldsOf t).toList.map (fun f => (f.name == "_", f.type, f.offset)) = [(false, 3, 0), (false, 3, 1), (false, 3, 2), (false, 36, 3), (false, tt, 4)])
    (hu2 : Tryz.prog.underlying tt = some (.struct (Tryz.prog.fieldsOf tt))) (hp2 : Tryz.prog.stoodInHeld tt = false)
    (hf2 : (Tryz.prog.fieldsOf tt).toList.map (fun f => (f.name == "_", f.type, f.offset)) = [(false, 3, 0), (false, tr, 1)])
    (HR : ∀ (d : Nat) (a b : Rf) (w : World), (Op.equalIn (d + 1 + 1 + 1) tr (.agg (rfC a)) (.agg (rfC b))).run Tryz.prog w = .ok (decide (a = b)) w)
    (d : Nat) (x y : Ino) (w : World) : (Op.equalIn (d + 1 + 1 + 1 + 1 + 1) t (.agg (inC x)) (.agg (inC y))).run Tryz.prog w = .ok (decide (x = y)) w := by
  have hi : ∀ (d : Nat) (a b : Int), (Op.equalIn (d + 1) 3 (.int .i64 a) (.int .i64 b)).run Tryz.prog w = .ok (a == b) w := fun d a b => by simp [Op.equalIn, run_underlying Tryz.underlying3]
  have hn : ∀ (d : Nat) (a b : Int), (Op.equalIn (d + 1) 36 (.int .u64 a) (.int .u64 b)).run Tryz.prog w = .ok (a == b) w := fun d a b => by simp [Op.equalIn, run_underlying Tryz.underlying36]
  have pt1 : ∀ (h : Int) (r : Rf), (part 3 (tiC h r) 0).run Tryz.prog w = .ok (.int .i64 h) w := fun h r => part_int _ _ Tryz.underlying3 _ _ _ (va_at (tiF h r) (by decide)) w
  have pt2 : ∀ (h : Int) (r : Rf), (part tr (tiC h r) 1).run Tryz.prog w = .ok (.agg (rfC r)) w := fun h r => part_agg _ 33 _ hur hrr hsr _ _ 1 (ti_ref h r) w
  have HT : (Op.equalIn (d + 1 + 1 + 1 + 1) tt (.agg (tiC x.h x.r)) (.agg (tiC y.h y.r))).run Tryz.prog w = .ok ((x.h == y.h) && decide (x.r = y.r)) w :=
    run_eq_two hu2 hp2 hf2 (pt1 _ _) (pt1 _ _) (pt2 _ _) (pt2 _ _) (hi _ _ _) (HR d _ _ w)
  have p0 : ∀ x : Ino, (part 3 (inC x) 0).run Tryz.prog w = .ok (.int .i64 x.k) w := fun x => part_int _ _ Tryz.underlying3 _ _ _ (va_at (inF x) (by decide)) w
  have p1 : ∀ x : Ino, (part 3 (inC x) 1).run Tryz.prog w = .ok (.int .i64 x.l) w := fun x => part_int _ _ Tryz.underlying3 _ _ _ (va_at (inF x) (by decide)) w
  have p2 : ∀ x : Ino, (part 3 (inC x) 2).run Tryz.prog w = .ok (.int .i64 x.s) w := fun x => part_int _ _ Tryz.underlying3 _ _ _ (va_at (inF x) (by decide)) w
  have p3 : ∀ x : Ino, (part 36 (inC x) 3).run Tryz.prog w = .ok (.int .u64 ((x.t : Nat) : Int)) w := fun x => part_int _ _ Tryz.underlying36 _ _ _ (va_at (inF x) (by decide)) w
  have p4 : ∀ x : Ino, (part tt (inC x) 4).run Tryz.prog w = .ok (.agg (tiC x.h x.r)) w := fun x => part_agg _ 34 _ hut htr hst _ _ 4 (in_tree x) w
  rw [run_eq_five hu hp hf (p0 x) (p0 y) (p1 x) (p1 y) (p2 x) (p2 y) (p3 x) (p3 y) (p4 x) (p4 y) (hi _ _ _) (hi _ _ _) (hi _ _ _) (hn _ _ _) HT]
  refine congrArg (fun b => Result.ok b w) ?_
  obtain ⟨k, l, s, t, h, r⟩ := x
  obtain ⟨k', l', s', t', h', r'⟩ := y
  rw [Bool.eq_iff_iff]
  simp only [decide_eq_true_eq, Bool.and_eq_true, beq_iff_eq, Ino.mk.injEq, and_true]
  constructor
  · rintro ⟨a, b, c, d, e, f⟩
    exact ⟨a, b, c, by omega, e, f⟩
  · rintro ⟨a, b, c, d, e, f⟩
    exact ⟨a, b, c, by omega, e, f⟩
theorem eq_rino (d : Nat) (x y : Ino) (w : World) : (Op.equalIn (d + 1 + 1 + 1 + 1 + 1) 116 (.agg (inC x)) (.agg (inC y))).run Tryz.prog w = .ok (decide (x = y)) w :=
  eq_inoAt 116 72 70 _ _ Tryz.underlying72 rfl sizeRTr Tryz.underlying70 rfl sizeRRf (by kernel_rfl) (by kernel_rfl) (by kernel_rfl) (by kernel_rfl) (by kernel_rfl) (by kernel_rfl) eq_rrf d x y w
end Go.Proofs.YtppagdmlfgialaaGreatDoor

namespace Go.Proofs.YtppagdmlfgialaaGreatDoor
open Go Go.RowKit
set_option linter.unusedSimpArgs false
set_option linter.unusedVariables false
/-- the least height of a tree whose leaves hold a things each, for n things -/
def hL (a n : Int) : Int := if n ≤ a then 0 else if n ≤ 4 * a then 1 else if n ≤ 16 * a then 2 else if n ≤ 64 * a then 3 else if n ≤ 256 * a then 4 else if n ≤ 1024 * a then 5 else 6
theorem hL_lt (a n : Int) : 0 ≤ hL a n ∧ hL a n ≤ 6 := by
  unfold hL
  split
  · decide
  · split
    · decide
    · split
      · decide
      · split
        · decide
        · split
          · decide
          · split <;> decide
set_option maxHeartbeats 4000000 in
theorem least4 (n : Int) (h0 : -9223372036854775808 ≤ n) (hn : n ≤ 16384) (w : World) : Calls Tryz.prog 103 #[.int .i64 4, .int .i64 n] w fun e w' => e = .returned (.int .i64 (hL 4 n)) ∧ w' = w := by
  by_cases c0 : n ≤ 4
  · have HE : Hid (hL 4 n = 0) := by show hL 4 n = 0; unfold hL; rw [if_pos (by omega)]
    have s0 : ¬ ((4 : Int) < n) := by omega
    clear hn c0
    rw [HE.out]
    clear HE
    go_enter Tryz.func103, Tryz.ntmps103
    go_wp2
    go_rounds 1
    go_returns
    exact ⟨by simp, rfl⟩
  · skip
    by_cases c1 : n ≤ 16
    · have HE : Hid (hL 4 n = 1) := by show hL 4 n = 1; unfold hL; rw [if_neg (by omega)]; rw [if_pos (by omega)]
      have s0 : ¬ ((16 : Int) < n) := by omega
      have g0 : (4 : Int) < n := by omega
      clear hn c0 c1
      rw [HE.out]
      clear HE
      go_enter Tryz.func103, Tryz.ntmps103
      go_wp2
      go_rounds 2
      go_returns
      exact ⟨by simp, rfl⟩
    · skip
      by_cases c2 : n ≤ 64
      · have HE : Hid (hL 4 n = 2) := by show hL 4 n = 2; unfold hL; rw [if_neg (by omega)]; rw [if_neg (by omega)]; rw [if_pos (by omega)]
        have s0 : ¬ ((64 : Int) < n) := by omega
        have g0 : (4 : Int) < n := by omega
        have g1 : (16 : Int) < n := by omega
        clear hn c0 c1 c2
        rw [HE.out]
        clear HE
        go_enter Tryz.func103, Tryz.ntmps103
        go_wp2
        go_rounds 3
        go_returns
        exact ⟨by simp, rfl⟩
      · skip
        by_cases c3 : n ≤ 256
        · have HE : Hid (hL 4 n = 3) := by show hL 4 n = 3; unfold hL; rw [if_neg (by omega)]; rw [if_neg (by omega)]; rw [if_neg (by omega)]; rw [if_pos (by omega)]
          have s0 : ¬ ((256 : Int) < n) := by omega
          have g0 : (4 : Int) < n := by omega
          have g1 : (16 : Int) < n := by omega
          have g2 : (64 : Int) < n := by omega
          clear hn c0 c1 c2 c3
          rw [HE.out]
          clear HE
          go_enter Tryz.func103, Tryz.ntmps103
          go_wp2
          go_rounds 4
          go_returns
          exact ⟨by simp, rfl⟩
        · skip
          by_cases c4 : n ≤ 1024
          · have HE : Hid (hL 4 n = 4) := by show hL 4 n = 4; unfold hL; rw [if_neg (by omega)]; rw [if_neg (by omega)]; rw [if_neg (by omega)]; rw [if_neg (by omega)]; rw [if_pos (by omega)]
            have s0 : ¬ ((1024 : Int) < n) := by omega
            have g0 : (4 : Int) < n := by omega
            have g1 : (16 : Int) < n := by omega
            have g2 : (64 : Int) < n := by omega
            have g3 : (256 : Int) < n := by omega
            clear hn c0 c1 c2 c3 c4
            rw [HE.out]
            clear HE
            go_enter Tryz.func103, Tryz.ntmps103
            go_wp2
            go_rounds 5
            go_returns
            exact ⟨by simp, rfl⟩
          · skip
            by_cases c5 : n ≤ 4096
            · have HE : Hid (hL 4 n = 5) := by show hL 4 n = 5; unfold hL; rw [if_neg (by omega)]; rw [if_neg (by omega)]; rw [if_neg (by omega)]; rw [if_neg (by omega)]; rw [if_neg (by omega)]; rw [if_pos (by omega)]
              have s0 : ¬ ((4096 : Int) < n) := by omega
              have g0 : (4 : Int) < n := by omega
              have g1 : (16 : Int) < n := by omega
              have g2 : (64 : Int) < n := by omega
              have g3 : (256 : Int) < n := by omega
              have g4 : (1024 : Int) < n := by omega
              clear hn c0 c1 c2 c3 c4 c5
              rw [HE.out]
              clear HE
              go_enter Tryz.func103, Tryz.ntmps103
              go_wp2
              go_rounds 6
              go_returns
              exact ⟨by simp, rfl⟩
            · skip
              have HE : Hid (hL 4 n = 6) := by show hL 4 n = 6; unfold hL; rw [if_neg (by omega)]; rw [if_neg (by omega)]; rw [if_neg (by omega)]; rw [if_neg (by omega)]; rw [if_neg (by omega)]; rw [if_neg (by omega)]
              have s0 : ¬ ((16384 : Int) < n) := by omega
              have g0 : (4 : Int) < n := by omega
              have g1 : (16 : Int) < n := by omega
              have g2 : (64 : Int) < n := by omega
              have g3 : (256 : Int) < n := by omega
              have g4 : (1024 : Int) < n := by omega
              have g5 : (4096 : Int) < n := by omega
              clear hn c0 c1 c2 c3 c4 c5
              rw [HE.out]
              clear HE
              go_enter Tryz.func103, Tryz.ntmps103
              go_wp2
              go_rounds 7
              go_returns
              exact ⟨by simp, rfl⟩
set_option maxHeartbeats 4000000 in
theorem rleast (n : Int) (h0 : -9223372036854775808 ≤ n) (hn : n ≤ 4096) (w : World) : Calls Tryz.prog 150 #[.int .i64 n] w fun e w' => e = .returned (.int .i64 (hL 1 n)) ∧ w' = w := by
  by_cases c0 : n ≤ 1
  · have HE : Hid (hL 1 n = 0) := by show hL 1 n = 0; unfold hL; rw [if_pos (by omega)]
    have s0 : ¬ ((1 : Int) < n) := by omega
    clear hn c0
    rw [HE.out]
    clear HE
    go_enter Tryz.func150, Tryz.ntmps150
    go_wp2
    go_rounds 1
    go_returns
    exact ⟨by simp, rfl⟩
  · skip
    by_cases c1 : n ≤ 4
    · have HE : Hid (hL 1 n = 1) := by show hL 1 n = 1; unfold hL; rw [if_neg (by omega)]; rw [if_pos (by omega)]
      have s0 : ¬ ((4 : Int) < n) := by omega
      have g0 : (1 : Int) < n := by omega
      clear hn c0 c1
      rw [HE.out]
      clear HE
      go_enter Tryz.func150, Tryz.ntmps150
      go_wp2
      go_rounds 2
      go_returns
      exact ⟨by simp, rfl⟩
    · skip
      by_cases c2 : n ≤ 16
      · have HE : Hid (hL 1 n = 2) := by show hL 1 n = 2; unfold hL; rw [if_neg (by omega)]; rw [if_neg (by omega)]; rw [if_pos (by omega)]
        have s0 : ¬ ((16 : Int) < n) := by omega
        have g0 : (1 : Int) < n := by omega
        have g1 : (4 : Int) < n := by omega
        clear hn c0 c1 c2
        rw [HE.out]
        clear HE
        go_enter Tryz.func150, Tryz.ntmps150
        go_wp2
        go_rounds 3
        go_returns
        exact ⟨by simp, rfl⟩
      · skip
        by_cases c3 : n ≤ 64
        · have HE : Hid (hL 1 n = 3) := by show hL 1 n = 3; unfold hL; rw [if_neg (by omega)]; rw [if_neg (by omega)]; rw [if_neg (by omega)]; rw [if_pos (by omega)]
          have s0 : ¬ ((64 : Int) < n) := by omega
          have g0 : (1 : Int) < n := by omega
          have g1 : (4 : Int) < n := by omega
          have g2 : (16 : Int) < n := by omega
          clear hn c0 c1 c2 c3
          rw [HE.out]
          clear HE
          go_enter Tryz.func150, Tryz.ntmps150
          go_wp2
          go_rounds 4
          go_returns
          exact ⟨by simp, rfl⟩
        · skip
          by_cases c4 : n ≤ 256
          · have HE : Hid (hL 1 n = 4) := by show hL 1 n = 4; unfold hL; rw [if_neg (by omega)]; rw [if_neg (by omega)]; rw [if_neg (by omega)]; rw [if_neg (by omega)]; rw [if_pos (by omega)]
            have s0 : ¬ ((256 : Int) < n) := by omega
            have g0 : (1 : Int) < n := by omega
            have g1 : (4 : Int) < n := by omega
            have g2 : (16 : Int) < n := by omega
            have g3 : (64 : Int) < n := by omega
            clear hn c0 c1 c2 c3 c4
            rw [HE.out]
            clear HE
            go_enter Tryz.func150, Tryz.ntmps150
            go_wp2
            go_rounds 5
            go_returns
            exact ⟨by simp, rfl⟩
          · skip
            by_cases c5 : n ≤ 1024
            · have HE : Hid (hL 1 n = 5) := by show hL 1 n = 5; unfold hL; rw [if_neg (by omega)]; rw [if_neg (by omega)]; rw [if_neg (by omega)]; rw [if_neg (by omega)]; rw [if_neg (by omega)]; rw [if_pos (by omega)]
              have s0 : ¬ ((1024 : Int) < n) := by omega
              have g0 : (1 : Int) < n := by omega
              have g1 : (4 : Int) < n := by omega
              have g2 : (16 : Int) < n := by omega
              have g3 : (64 : Int) < n := by omega
              have g4 : (256 : Int) < n := by omega
              clear hn c0 c1 c2 c3 c4 c5
              rw [HE.out]
              clear HE
              go_enter Tryz.func150, Tryz.ntmps150
              go_wp2
              go_rounds 6
              go_returns
              exact ⟨by simp, rfl⟩
            · skip
              have HE : Hid (hL 1 n = 6) := by show hL 1 n = 6; unfold hL; rw [if_neg (by omega)]; rw [if_neg (by omega)]; rw [if_neg (by omega)]; rw [if_neg (by omega)]; rw [if_neg (by omega)]; rw [if_neg (by omega)]
              have s0 : ¬ ((4096 : Int) < n) := by omega
              have g0 : (1 : Int) < n := by omega
              have g1 : (4 : Int) < n := by omega
              have g2 : (16 : Int) < n := by omega
              have g3 : (64 : Int) < n := by omega
              have g4 : (256 : Int) < n := by omega
              have g5 : (1024 : Int) < n := by omega
              clear hn c0 c1 c2 c3 c4 c5
              rw [HE.out]
              clear HE
              go_enter Tryz.func150, Tryz.ntmps150
              go_wp2
              go_rounds 7
              go_returns
              exact ⟨by simp, rfl⟩
theorem hL_256 (n : Int) (h0 : 0 ≤ n) : hL 1 ((n + 255) / 256) = hL 256 n := by
  unfold hL
  by_cases c0 : n ≤ 256
  · rw [if_pos c0, if_pos (by omega)]
  · rw [if_neg c0, if_neg (by omega)]
    by_cases c1 : n ≤ 4 * 256
    · rw [if_pos c1, if_pos (by omega)]
    · rw [if_neg c1, if_neg (by omega)]
      by_cases c2 : n ≤ 16 * 256
      · rw [if_pos c2, if_pos (by omega)]
      · rw [if_neg c2, if_neg (by omega)]
        by_cases c3 : n ≤ 64 * 256
        · rw [if_pos c3, if_pos (by omega)]
        · rw [if_neg c3, if_neg (by omega)]
          by_cases c4 : n ≤ 256 * 256
          · rw [if_pos c4, if_pos (by omega)]
          · rw [if_neg c4, if_neg (by omega)]
            by_cases c5 : n ≤ 1024 * 256
            · rw [if_pos c5, if_pos (by omega)]
            · rw [if_neg c5, if_neg (by omega)]
theorem hL_4 (n : Int) (h0 : 0 ≤ n) : hL 1 ((n + 3) / 4) = hL 4 n := by
  unfold hL
  by_cases c0 : n ≤ 4
  · rw [if_pos c0, if_pos (by omega)]
  · rw [if_neg c0, if_neg (by omega)]
    by_cases c1 : n ≤ 4 * 4
    · rw [if_pos c1, if_pos (by omega)]
    · rw [if_neg c1, if_neg (by omega)]
      by_cases c2 : n ≤ 16 * 4
      · rw [if_pos c2, if_pos (by omega)]
      · rw [if_neg c2, if_neg (by omega)]
        by_cases c3 : n ≤ 64 * 4
        · rw [if_pos c3, if_pos (by omega)]
        · rw [if_neg c3, if_neg (by omega)]
          by_cases c4 : n ≤ 256 * 4
          · rw [if_pos c4, if_pos (by omega)]
          · rw [if_neg c4, if_neg (by omega)]
            by_cases c5 : n ≤ 1024 * 4
            · rw [if_pos c5, if_pos (by omega)]
            · rw [if_neg c5, if_neg (by omega)]
end Go.Proofs.YtppagdmlfgialaaGreatDoor

namespace Go.Proofs.YtppagdmlfgialaaGreatDoor
open Go Go.RowKit
set_option linter.unusedSimpArgs false
set_option linter.unusedVariables false
/-- a root: blocks, counter, the table's tree, inodes, the map's tree, used -/
structure Sup where
  b : Int
  c : Nat
  th : Int
  tr : Rf
  n : Int
  mh : Int
  mr : Rf
  u : Int
  deriving DecidableEq
def su0 : Sup := ⟨0, 0, 0, rf0, 0, 0, rf0, 0⟩
/-- what any root is that can stand in the memory -/
structure SuW (x : Sup) : Prop where
  b : -9223372036854775808 ≤ x.b ∧ x.b ≤ 9223372036854775807
  c : x.c < 18446744073709551616
  th : -9223372036854775808 ≤ x.th ∧ x.th ≤ 9223372036854775807
  ta : x.tr.1 < 4294967296
  td : okD x.tr.2
  n : -9223372036854775808 ≤ x.n ∧ x.n ≤ 9223372036854775807
  mh : -9223372036854775808 ≤ x.mh ∧ x.mh ≤ 9223372036854775807
  ma : x.mr.1 < 4294967296
  md : okD x.mr.2
  u : -9223372036854775808 ≤ x.u ∧ x.u ≤ 9223372036854775807
def suF (x : Sup) : Nat → Value := fun i => if i = 0 then .int .i64 x.b else if i = 1 then .int .u64 ((x.c : Nat) : Int) else if i < 36 then tiF x.th x.tr (i - 2) else if i = 36 then .int .i64 x.n else if i < 71 then tiF x.mh x.mr (i - 37) else .int .i64 x.u
def suC (x : Sup) : Array Value := va 72 (suF x)
theorem suC_size (x : Sup) : (suC x).size = 72 := va_size _ _
theorem suF_one (x : Sup) (i : Nat) : (suF x i).oneCell' = true := by
  unfold suF
  split
  · rfl
  · split
    · rfl
    · split
      · exact tiF_one _ _ _
      · split
        · rfl
        · split
          · exact tiF_one _ _ _
          · rfl
theorem suC_all (x : Sup) : (suC x).all (·.oneCell') = true := va_one fun i _ => suF_one _ _
theorem su_table (x : Sup) : (suC x).extract 2 (2 + 34) = tiC x.th x.tr := by
  unfold suC tiC
  rw [va_extract 72 2 34 _ (by decide)]
  refine va_congr fun i hi => ?_
  unfold suF
  rw [if_neg (by omega), if_neg (by omega), if_pos (by omega), show 2 + i - 2 = i by omega]
theorem su_map (x : Sup) : (suC x).extract 37 (37 + 34) = tiC x.mh x.mr := by
  unfold suC tiC
  rw [va_extract 72 37 34 _ (by decide)]
  refine va_congr fun i hi => ?_
  unfold suF
  rw [if_neg (by omega), if_neg (by omega), if_neg (by omega), if_neg (by omega), if_pos (by omega), show 37 + i - 37 = i by omega]
theorem su_tsum (x : Sup) : (suC x).extract 4 (4 + 32) = va 32 (iv .u8 (dF x.tr.2)) := by
  unfold suC
  rw [va_extract 72 4 32 _ (by decide)]
  refine va_congr fun i hi => ?_
  unfold suF tiF rfF iv
  rw [if_neg (by omega), if_neg (by omega), if_pos (by omega), if_neg (by omega), if_neg (by omega), show 4 + i - 2 - 1 - 1 = i by omega]
theorem su_msum (x : Sup) : (suC x).extract 39 (39 + 32) = va 32 (iv .u8 (dF x.mr.2)) := by
  unfold suC
  rw [va_extract 72 39 32 _ (by decide)]
  refine va_congr fun i hi => ?_
  unfold suF tiF rfF iv
  rw [if_neg (by omega), if_neg (by omega), if_neg (by omega), if_neg (by omega), if_pos (by omega), if_neg (by omega), if_neg (by omega), show 39 + i - 37 - 1 - 1 = i by omega]
theorem sizeSup : (Tryz.prog.info? 48).map (·.size) = some 72 := by kernel_rfl
theorem sizeRSup : (Tryz.prog.info? 74).map (·.size) = some 72 := by kernel_rfl
theorem zero_sup (w : World) : (zeroValue 48).run Tryz.prog w = .ok (.agg (suC su0)) w := zero_of (by kernel_rfl) w
theorem zero_rsup (w : World) : (zeroValue 74).run Tryz.prog w = .ok (.agg (suC su0)) w := zero_of (by kernel_rfl) w
theorem sup_c0 {w : World} {g T : Nat} {x : Sup} (h : Blk w g T (suC x)) : w.cell? ⟨g, 0, none⟩ = some (.int .i64 x.b) := by rw [h.cell]; exact va_at (suF x) (by decide)
theorem sup_c1 {w : World} {g T : Nat} {x : Sup} (h : Blk w g T (suC x)) : w.cell? ⟨g, 1, none⟩ = some (.int .u64 ((x.c : Nat) : Int)) := by rw [h.cell]; exact va_at (suF x) (by decide)
theorem sup_c2 {w : World} {g T : Nat} {x : Sup} (h : Blk w g T (suC x)) : w.cell? ⟨g, 2, none⟩ = some (.int .i64 x.th) := by rw [h.cell]; exact va_at (suF x) (by decide)
theorem sup_c3 {w : World} {g T : Nat} {x : Sup} (h : Blk w g T (suC x)) : w.cell? ⟨g, 3, none⟩ = some (.int .u32 ((x.tr.1 : Nat) : Int)) := by rw [h.cell]; exact va_at (suF x) (by decide)
theorem sup_c36 {w : World} {g T : Nat} {x : Sup} (h : Blk w g T (suC x)) : w.cell? ⟨g, 36, none⟩ = some (.int .i64 x.n) := by rw [h.cell]; exact va_at (suF x) (by decide)
theorem sup_c37 {w : World} {g T : Nat} {x : Sup} (h : Blk w g T (suC x)) : w.cell? ⟨g, 37, none⟩ = some (.int .i64 x.mh) := by rw [h.cell]; exact va_at (suF x) (by decide)
theorem sup_c38 {w : World} {g T : Nat} {x : Sup} (h : Blk w g T (suC x)) : w.cell? ⟨g, 38, none⟩ = some (.int .u32 ((x.mr.1 : Nat) : Int)) := by rw [h.cell]; exact va_at (suF x) (by decide)
theorem sup_c71 {w : World} {g T : Nat} {x : Sup} (h : Blk w g T (suC x)) : w.cell? ⟨g, 71, none⟩ = some (.int .i64 x.u) := by rw [h.cell]; exact va_at (suF x) (by decide)
theorem run_eq_six {P : Program} {w : World} {d : Nat} {t t1 t2 t3 t4 t5 t6 o1 o2 o3 o4 o5 o6 : Nat} {cs ds : Array Value} {x1 y1 x2 y2 x3 y3 x4 y4 x5 y5 x6 y6 : Value} {b1 b2 b3 b4 b5 b6 : Bool} (hu : P.underlying t = some (.struct (P.fieldsOf t))) (hp : P.stoodInHeld t = false)
    (hf : (P.fieldsOf t).toList.map (fun f => (f.name == "_", f.type, f.offset)) = [(false, t1, o1), (false, t2, o2), (false, t3, o3), (false, t4, o4), (false, t5, o5), (false, t6, o6)])
    (p1 : (part t1 cs o1).run P w = .ok x1 w) (q1 : (part t1 ds o1).run P w = .ok y1 w) (p2 : (part t2 cs o2).run P w = .ok x2 w) (q2 : (part t2 ds o2).run P w = .ok y2 w) (p3 : (part t3 cs o3).run P w = .ok x3 w) (q3 : (part t3 ds o3).run P w = .ok y3 w)
    (p4 : (part t4 cs o4).run P w = .ok x4 w) (q4 : (part t4 ds o4).run P w = .ok y4 w) (p5 : (part t5 cs o5).run P w = .ok x5 w) (q5 : (part t5 ds o5).run P w = .ok y5 w) (p6 : (part t6 cs o6).run P w = .ok x6 w) (q6 : (part t6 ds o6).run P w = .ok y6 w)
    (h1 : (Op.equalIn d t1 x1 y1).run P w = .ok b1 w) (h2 : (Op.equalIn d t2 x2 y2).run P w = .ok b2 w) (h3 : (Op.equalIn d t3 x3 y3).run P w = .ok b3 w) (h4 : (Op.equalIn d t4 x4 y4).run P w = .ok b4 w) (h5 : (Op.equalIn d t5 x5 y5).run P w = .ok b5 w) (h6 : (Op.equalIn d t6 x6 y6).run P w = .ok b6 w) :
    (Op.equalIn (d + 1) t (.agg cs) (.agg ds)).run P w = .ok (b1 && (b2 && (b3 && (b4 && (b5 && (b6 && true)))))) w := by
  rw [run_equalIn_struct w d t cs ds hu hp]
  obtain ⟨f1, l1, e1, hf1, hl1⟩ := List.map_eq_cons_iff.1 hf
  obtain ⟨f2, l2, e2, hf2, hl2⟩ := List.map_eq_cons_iff.1 hl1
  obtain ⟨f3, l3, e3, hf3, hl3⟩ := List.map_eq_cons_iff.1 hl2
  obtain ⟨f4, l4, e4, hf4, hl4⟩ := List.map_eq_cons_iff.1 hl3
  obtain ⟨f5, l5, e5, hf5, hl5⟩ := List.map_eq_cons_iff.1 hl4
  obtain ⟨f6, l6, e6, hf6, hl6⟩ := List.map_eq_cons_iff.1 hl5
  have e7 := List.map_eq_nil_iff.1 hl6
  subst e7 e6 e5 e4 e3 e2
  rw [e1]
  exact eqF_cons hf1 p1 q1 h1 (eqF_cons hf2 p2 q2 h2 (eqF_cons hf3 p3 q3 h3 (eqF_cons hf4 p4 q4 h4 (eqF_cons hf5 p5 q5 h5 (eqF_cons hf6 p6 q6 h6 (by simp [Op.eqFields]))))))
theorem eq_supAt (t tt tr : TypeId) (ut ur : TypeDesc) (hut : Tryz.prog.underlying tt = some ut) (htr : ut.isRow = true) (hst : (Tryz.prog.info? tt).map (·.size) = some 34) (hur : Tryz.prog.underlying tr = some ur) (hrr : ur.isRow = true) (hsr : (Tryz.prog.info? tr).map (·.size) = some 33)
    (hu : Tryz.prog.underlying t = some (.struct (Tryz.prog.fieldsOf t))) (hp : Tryz.prog.stoodInHeld t = false)
    (hf : (Tryz.prog.fieldsOf t).toList.map (fun f => (f.name == "_", f.type, f.offset)) = [(false, 3, 0), (false, 36, 1), (false, tt, 2), (false, 3, 36), (false, tt, 37), (false, 3, 71)])
    (hu2 : Tryz.prog.underlying tt = some (.struct (Tryz.prog.fieldsOf tt))) (hp2 : Tryz.prog.stoodInHeld tt = false)
    (hf2 : (Tryz.prog.fieldsOf tt).toList.map (fun f => (f.name == "_", f.type, f.offset)) = [(false, 3, 0), (false, tr, 1)])
    (HR : ∀ (d : Nat) (a b : Rf) (w : World), (Op.equalIn (d + 1 + 1 + 1) tr (.agg (rfC a)) (.agg (rfC b))).run Tryz.prog w = .ok (decide (a = b)) w)
    (d : Nat) (x y : Sup) (w : World) : (Op.equalIn (d + 1 + 1 + 1 + 1 + 1) t (.agg (suC x)) (.agg (suC y))).run Tryz.prog w = .ok (decide (x = y)) w := by
  have hi : ∀ (d : Nat) (a b : Int), (Op.equalIn (d + 1) 3 (.int .i64 a) (.int .i64 b)).run Tryz.prog w = .ok (a == b) w := fun d a b => by simp [Op.equalIn, run_underlying Tryz.underlying3]
  have hn : ∀ (d : Nat) (a b : Int), (Op.equalIn (d + 1) 36 (.int .u64 a) (.int .u64 b)).run Tryz.prog w = .ok (a == b) w := fun d a b => by simp [Op.equalIn, run_underlying Tryz.underlying36]
  have pt1 : ∀ (h : Int) (r : Rf), (part 3 (tiC h r) 0).run Tryz.prog w = .ok (.int .i64 h) w := fun h r => part_int _ _ Tryz.underlying3 _ _ _ (va_at (tiF h r) (by decide)) w
  have pt2 : ∀ (h : Int) (r : Rf), (part tr (tiC h r) 1).run Tryz.prog w = .ok (.agg (rfC r)) w := fun h r => part_agg _ 33 _ hur hrr hsr _ _ 1 (ti_ref h r) w
  have HT : ∀ (h h' : Int) (r r' : Rf), (Op.equalIn (d + 1 + 1 + 1 + 1) tt (.agg (tiC h r)) (.agg (tiC h' r'))).run Tryz.prog w = .ok ((h == h') && decide (r = r')) w := fun h h' r r' =>
    run_eq_two hu2 hp2 hf2 (pt1 _ _) (pt1 _ _) (pt2 _ _) (pt2 _ _) (hi _ _ _) (HR d _ _ w)
  have p0 : ∀ x : Sup, (part 3 (suC x) 0).run Tryz.prog w = .ok (.int .i64 x.b) w := fun x => part_int _ _ Tryz.underlying3 _ _ _ (va_at (suF x) (by decide)) w
  have p1 : ∀ x : Sup, (part 36 (suC x) 1).run Tryz.prog w = .ok (.int .u64 ((x.c : Nat) : Int)) w := fun x => part_int _ _ Tryz.underlying36 _ _ _ (va_at (suF x) (by decide)) w
  have p2 : ∀ x : Sup, (part tt (suC x) 2).run Tryz.prog w = .ok (.agg (tiC x.th x.tr)) w := fun x => part_agg _ 34 _ hut htr hst _ _ 2 (su_table x) w
  have p3 : ∀ x : Sup, (part 3 (suC x) 36).run Tryz.prog w = .ok (.int .i64 x.n) w := fun x => part_int _ _ Tryz.underlying3 _ _ _ (va_at (suF x) (by decide)) w
  have p4 : ∀ x : Sup, (part tt (suC x) 37).run Tryz.prog w = .ok (.agg (tiC x.mh x.mr)) w := fun x => part_agg _ 34 _ hut htr hst _ _ 37 (su_map x) w
  have p5 : ∀ x : Sup, (part 3 (suC x) 71).run Tryz.prog w = .ok (.int .i64 x.u) w := fun x => part_int _ _ Tryz.underlying3 _ _ _ (va_at (suF x) (by decide)) w
  rw [run_eq_six hu hp hf (p0 x) (p0 y) (p1 x) (p1 y) (p2 x) (p2 y) (p3 x) (p3 y) (p4 x) (p4 y) (p5 x) (p5 y) (hi _ _ _) (hn _ _ _) (HT _ _ _ _) (hi _ _ _) (HT _ _ _ _) (hi _ _ _)]
  refine congrArg (fun b => Result.ok b w) ?_
  obtain ⟨b, c, th, tr, n, mh, mr, u⟩ := x
  obtain ⟨b', c', th', tr', n', mh', mr', u'⟩ := y
  rw [Bool.eq_iff_iff]
  simp only [decide_eq_true_eq, Bool.and_eq_true, beq_iff_eq, Sup.mk.injEq, and_true]
  constructor
  · rintro ⟨a, b, ⟨c, d⟩, e, ⟨f, g⟩, h⟩
    exact ⟨a, by omega, c, d, e, f, g, h⟩
  · rintro ⟨a, b, c, d, e, f, g, h⟩
    exact ⟨a, by omega, ⟨c, d⟩, e, ⟨f, g⟩, h⟩
theorem eq_sup (d : Nat) (x y : Sup) (w : World) : (Op.equalIn (d + 1 + 1 + 1 + 1 + 1) 48 (.agg (suC x)) (.agg (suC y))).run Tryz.prog w = .ok (decide (x = y)) w :=
  eq_supAt 48 46 41 _ _ Tryz.underlying46 rfl sizeTi Tryz.underlying41 rfl slSizeRef (by kernel_rfl) (by kernel_rfl) (by kernel_rfl) (by kernel_rfl) (by kernel_rfl) (by kernel_rfl) eq_ref d x y w
end Go.Proofs.YtppagdmlfgialaaGreatDoor
