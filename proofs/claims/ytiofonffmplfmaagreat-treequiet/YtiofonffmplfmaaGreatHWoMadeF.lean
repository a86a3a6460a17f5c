/- What made leaves behind: a cache on a quiet disk, and the image; no walk in it. -/
import Derived.Test.YtiofonffmplfmaaGreatHDkWrite
import Derived.Test.YtiofonffmplfmaaGreatHNdTake
import Derived.Deep.DeepCutAuto
import Derived.Deep.Cut
import Derived.Handy
import Derived.Test.YtiofonffmplfmaaGreatHTrRng
import Derived.Test.YtiofonffmplfmaaGreatHLogNil
import Derived.Test.YtiofonffmplfmaaGreatHDkFns
import Derived.Test.YtiofonffmplfmaaGreatHTrRead
import Derived.Test.YtiofonffmplfmaaGreatHTrNew

namespace Go.Proofs.YtiofonffmplfmaaGreat
open Go Go.RowKit
set_option linter.unusedSimpArgs false
set_option linter.unusedVariables false

/-- the bytes of a disk of which the first i blocks were laid -/
def loadF (L : Nat → Nat → Nat) (F : Nat → Nat) (i : Nat) : Nat → Nat := fun x => if x / 256 < i then L (x / 256) (x % 256) else F x
theorem loadF_zero (L : Nat → Nat → Nat) (F : Nat → Nat) : loadF L F 0 = F := by
  funext x
  unfold loadF
  rw [if_neg (by omega)]
theorem loadF_put (L : Nat → Nat → Nat) (F : Nat → Nat) (i : Nat) : putAt (loadF L F i) (i * 256) 256 (L i) = loadF L F (i + 1) := by
  funext x
  unfold putAt loadF
  by_cases h : i * 256 ≤ x ∧ x < i * 256 + 256
  · rw [if_pos h, if_pos (by omega), show x / 256 = i by omega, show x % 256 = x - i * 256 by omega]
  · rw [if_neg h]
    by_cases h2 : x / 256 < i
    · rw [if_pos h2, if_pos (by omega)]
    · rw [if_neg h2, if_neg (by omega)]
section
variable {B g N : Nat} {q : QD}
set_option maxRecDepth 100000 in
set_option maxHeartbeats 4000000 in
theorem load_q (F : Nat → Nat) (L : Nat → Nat → Nat) (b cap : Nat) (h16 : 0 < N) (hN : N ≤ 8192) (hl : ∀ a : Nat, findIn ((0 : Int), (a : Int)) q.l = none) (hG : ∀ j, q.G.getD j [] = []) (hbf : ¬ foot g N q b) (w : World) (hB : B ≤ w.heap.size) (hq : DiskQ w B g N F 0 0 q) (hI : IsBlks w (some ⟨b, 0, none⟩) N L) :
    Calls Tryz.prog 24 #[.pointer (some ⟨g, 0, none⟩), .slice (some ⟨b, 0, none⟩) N cap] w fun e w' => e = .returned (.int .i64 0) ∧ ∃ l G ss, DiskQ w' B g N (loadF L F N) 0 0 { q with l := l, G := G, ss := ss } ∧ Moved g N q { q with l := l, G := G, ss := ss } w w' := by
  have hz := zero_bk
  have hLay : Hid (∀ (i : Nat) (l : List ((Int × Int) × Vector Nat 256)) (G : List (List Nat)) (ss : List Value) (W : World), i < N → findIn ((0 : Int), (i : Int)) l = none → G.getD i [] = [] → B ≤ W.heap.size → DiskQ W B g N (loadF L F i) 0 0 { q with l := l, G := G, ss := ss } → Calls Tryz.prog 45 #[.pointer (some ⟨g, 0, none⟩), .int .i64 (i : Int), .agg (va 256 (iv .u8 (L i)))] W fun e w' => e = .returned (.tuple #[]) ∧ ∃ l' G' ss', DiskQ w' B g N (loadF L F (i + 1)) 0 0 { q with l := l', G := G', ss := ss' } ∧ Moved g N { q with l := l, G := G, ss := ss } { q with l := l', G := G', ss := ss' } W w' ∧ (∀ a : Nat, a ≠ i → findIn ((0 : Int), (a : Int)) l' = findIn ((0 : Int), (a : Int)) l) ∧ (∀ j, j ≠ i → G'.getD j [] = G.getD j [])) := fun i l G ss W hi h1 h2 h3 h4 => by
    have := lay_q2 (k := 0) i (L i) hi hN h1 (show (G.getD i []).length < 0 + 1 by rw [h2]; decide) (by decide) W h3 h4
    rw [loadF_put] at this
    exact this
  have HI : Hid (∀ i, i < N → b < w.heap.size ∧ w.rangeAt b (i * 256) ((List.range 256).map (iv .u8 (L i)))) := fun i hi => by
    obtain ⟨b', o', e, h1, h2⟩ := hI i hi
    injection e with e
    injection e with e1 e2
    subst e1 e2
    rw [Nat.zero_add] at h2
    exact ⟨h1, h2⟩
  have c0 : w.cell? ⟨g, 0, none⟩ = some (.slice (some ⟨q.gn, 0, none⟩) N N) := by rw [hq.cells.cell]; rfl
  have HQ0 : Hid (DiskQ w B g N F 0 0 q) := hq
  have HBF : Hid (¬ foot g N q b) := hbf
  have HBW : Hid (B ≤ w.heap.size) := hB
  have HL0 : Hid (∀ a : Nat, findIn ((0 : Int), (a : Int)) q.l = none) := hl
  have HG0 : Hid (∀ j, q.G.getD j [] = []) := hG
  clear hq hI hbf hB hl hG
  go_enter Tryz.func24, Tryz.ntmps24
  go_wp2_with fail
  go_loopw [21] (fun t wr => ∃ (i : Nat) (l : List ((Int × Int) × Vector Nat 256)) (G : List (List Nat)) (ss : List Value), i ≤ N ∧ t = .int .i64 (i : Int) ∧ DiskQ wr B g N (loadF L F i) 0 0 { q with l := l, G := G, ss := ss } ∧ Moved g N q { q with l := l, G := G, ss := ss } w wr ∧ (∀ a : Nat, i ≤ a → findIn ((0 : Int), (a : Int)) l = none) ∧ (∀ j, i ≤ j → G.getD j [] = [])) (fun t _ => N - (intOf t).toNat)
  case atStart =>
    exact ⟨0, q.l, q.G, q.ss, Nat.zero_le _, rfl, by rw [loadF_zero]; exact HQ0.out, .of_below (Below.refl _ _), fun a _ => HL0.out a, fun j _ => HG0.out j⟩
  case round =>
    obtain ⟨i, l, G, ss, hi, rfl, hq, hm, h1, h2⟩ := hrel
    have HQ : Hid (DiskQ wr B g N (loadF L F i) 0 0 { q with l := l, G := G, ss := ss }) := hq
    have HM : Hid (Moved g N q { q with l := l, G := G, ss := ss } w wr) := hm
    have H1 : Hid (∀ a : Nat, i ≤ a → findIn ((0 : Int), (a : Int)) l = none) := h1
    have H2 : Hid (∀ j, i ≤ j → G.getD j [] = []) := h2
    clear hq hm h1 h2 c0
    by_cases hlt : i < N
    · have k0 : (0 : Int) ≤ (i : Int) := by omega
      have k1 : (i : Int) < (N : Int) := by omega
      have HR : Hid (wr.rangeAt b (i * 256) ((List.range 256).map (iv .u8 (L i)))) := fun j v hv => by
        rw [← (HI.out i hlt).2 j v hv]
        simp only [World.cell?, HM.out.1.block b (HI.out i hlt).1 HBF.out]
      have q0 := Blk.new wr 52 (va 256 (iv .u8 fun _ => 0))
      have r0 := q0.set (va 256 (iv .u8 (L i)))
      have HB1 : Hid (Below wr.heap.size wr ((wr.alloc (.cells (va 256 (iv .u8 fun _ => 0)) 52)).setRow wr.heap.size (va 256 (iv .u8 (L i))))) := below_setRow (below_new1 _ _) (Nat.le_refl _) _
      have hix : i * 256 < 9223372036854775808 := by omega
      go_wp2_with (first
        | (refine wpList_load_blk (by rfl) 52 _ (by rfl) (b) (i * 256) 256 (iv .u8 (L i)) (by rfl) _ (by exact HR.out) Tryz.underlying52 rfl sizeBk ?_; simp only [Act.put, List.setIfInBounds_toArray, List.set_cons_zero, List.set_cons_succ])
        | (refine wpList_store_row (by rfl) 52 _ _ (by rfl) (wr.heap.size) (va 256 (iv .u8 (L i))) (by rfl) (by rfl) 52 (_) (by exact q0) (sizeBk.trans (by rw [va_size])) (by simp only [va_size]) (iv_one _ _ _) ?_; simp only [Act.put, List.setIfInBounds_toArray, List.set_cons_zero, List.set_cons_succ])
        | (refine wpList_load_rowg (by rfl) 52 _ (by rfl) (wr.heap.size) (by rfl) 52 (va 256 (iv .u8 (L i))) (0, 0) _ (by exact r0) Tryz.underlying52 (by rfl) (sizeBk.trans (by rw [va_size])) ?_; simp only [Act.put, List.setIfInBounds_toArray, List.set_cons_zero, List.set_cons_succ])
        | fail)
      refine (hLay.out i l G ss ((wr.alloc (.cells (va 256 (iv .u8 fun _ => 0)) 52)).setRow wr.heap.size (va 256 (iv .u8 (L i)))) hlt (H1.out i (Nat.le_refl _)) (H2.out i (Nat.le_refl _)) (Nat.le_trans HBW.out (Nat.le_trans HM.out.1.size HB1.out.size)) (HQ.out.below HB1.out)).mono ?_
      rintro e w2 ⟨rfl, l', G', ss', hq2, hm2, h3, h4⟩
      have HQ2 : Hid (DiskQ w2 B g N (loadF L F (i + 1)) 0 0 { q with l := l', G := G', ss := ss' }) := hq2
      have HM2 : Hid (Moved g N q { q with l := l', G := G', ss := ss' } w w2) := HM.out.trans ((Moved.of_below HB1.out).trans hm2)
      have H3 : Hid (∀ a : Nat, i + 1 ≤ a → findIn ((0 : Int), (a : Int)) l' = none) := fun a ha => by rw [h3 a (by omega)]; exact H1.out a (by omega)
      have H4 : Hid (∀ j, i + 1 ≤ j → G'.getD j [] = []) := fun j hj => by rw [h4 j (by omega)]; exact H2.out j (by omega)
      clear hq2 hm2 h3 h4 HQ HM H1 H2 q0 r0 HB1 HR hLay
      go_wp2_with fail
      refine ⟨⟨i + 1, l', G', ss', by omega, by simp, HQ2.out, HM2.out, H3.out, H4.out⟩, ?_⟩
      simp [intOf]
      omega
    · obtain rfl : i = N := by omega
      go_wp2_with fail
      go_ret
      exact ⟨rfl, l, G, ss, HQ.out, HM.out⟩
end
end Go.Proofs.YtiofonffmplfmaaGreat

namespace Go.Proofs.YtiofonffmplfmaaGreat
open Go Go.RowKit
set_option linter.unusedSimpArgs false
set_option linter.unusedVariables false

theorem byL_apX (X : Nat → Nat) (n : Nat) (f : Nat → Nat) : byL (apX X n f) ((n + 1) * 256) = byL X (n * 256) ++ (va 256 (iv .u8 f)).toList := by
  rw [show (n + 1) * 256 = n * 256 + 256 by omega, byL_add, va_byL9]
  congr 1
  · unfold byL
    refine List.map_congr_left fun j hj => ?_
    show Value.int .u8 (((if j < n * 256 then X j else f (j - n * 256) : Nat)) : Int) = _
    rw [if_pos (List.mem_range.1 hj)]
  · unfold byL
    refine List.map_congr_left fun j hj => ?_
    show Value.int .u8 (((if n * 256 + j < n * 256 then X (n * 256 + j) else f (n * 256 + j - n * 256) : Nat)) : Int) = _
    rw [if_neg (by omega), show n * 256 + j - n * 256 = j by omega]
theorem wpList_append_bk {P : Program} {ops : Array Oper} {rest : List Oper} {o : Oper} {a : Act} {w : World} {Q : Exit → Act → World → Prop} (hgd : o.guard = none) (s x : Operand) (t : TypeId)
    (ho : o.op = .call { callee := .builtin .append, args := #[s, x], argTypes := #[t, t] }) (B : Nat) (e : TypeId) (i : TypeInfo) (z : Value) (ht : P.underlying t = some (.slice e)) (hi : P.info? e = some i) (hz : i.zero = some z) (hsize : i.size = 256) (hby : i.bytes = 256) (hzs : z.cells.size = 256)
    (v : Value) (n : Nat) (X f : Nat → Nat) (hs : a.eval s = v) (hown : w.ownsRow B e 256 v n (byL X (n * 256))) (g c : Nat) (hx : a.eval x = .slice (some ⟨g, 0, none⟩) 1 c) (hg : Blk w g e (va 256 (iv .u8 f))) (hn : n ≤ 100000) (hbase : B ≤ w.heap.size)
    (h : ∀ v' w', w'.ownsRow B e 256 v' (n + 1) (byL (apX X n f) ((n + 1) * 256)) → Below B w w' → w.grownBy w' v.ownBlock → (v'.ownBlock = v.ownBlock ∨ v'.ownBlock = some w.heap.size) → wpList P ops Q rest (a.put o.dst v') w') : wpList P ops Q (o :: rest) a w := by
  refine wpList_append_own_at hgd s x t ho B e i z 256 256 ht hi hz hsize hby hzs (by decide) v n _ hs hown ⟨g, 0, none⟩ 1 c (va 256 (iv .u8 f)).toList hx (by simp [va_size]) (fun j u hu => ?_) (arr_mem (iv_one _ _ _)) (by unfold maxLen; omega) (by omega) hbase fun v' w' h1 h2 h3 => ?_
  · rw [Addr.add_mid, hg.cell]
    rw [Array.getElem?_toList] at hu
    simpa using hu
  · rw [← byL_apX] at h1
    refine h v' w' h1 ((Below.refl _ _).grown h2 hbase fun k hk => ?_) h2 h3
    rcases hown.2 with ⟨rfl, _⟩ | ⟨b, cap, cur, rfl, hb, _⟩
    · cases hk
    · cases hk
      exact hb
theorem made_bk9 (n : Nat) : madeCells (va 256 (iv .u8 fun _ => 0)) (n * 256) = va (n * 256) (iv .u8 fun _ => 0) :=
  made_const _ _ 256 (va_size _ _) (by decide) (fun j hj => va_at (iv .u8 fun _ => 0) hj) _
theorem make_img (w : World) : (Instr.makeSlice 27 (.int .i64 1) (.int .i64 1)).run Tryz.prog w = .ok (.slice (some ⟨w.heap.size, 0, none⟩) 1 1) (w.alloc (.cells (va 256 (iv .u8 fun _ => 0)) 49)) := by
  obtain ⟨i0, hi, hz0, hz1, hz2⟩ := tinfo_parts info256
  have := run_make (P := Tryz.prog) w 27 49 i0 (.agg (va 256 (iv .u8 fun _ => 0))) Tryz.underlying27 hi hz0 .i64 .i64 ((1 : Nat) : Int) ((1 : Nat) : Int) (by omega) (Int.le_refl _) (by rw [hz2]; omega) (by omega)
  rw [hz1] at this
  simp only [Int.toNat_natCast, Value.cells, made_bk9] at this
  exact this
theorem img_one {w : World} {B g : Nat} (h : Blk w g 49 (va 256 (iv .u8 fun _ => 0))) (hB : B ≤ g) : Img w B (.slice (some ⟨g, 0, none⟩) 1 1) 1 fun _ => 0 := by
  refine ⟨⟨by simp [byL_length], .inr ⟨g, 1, _, rfl, hB, h, Nat.le_refl _, by unfold maxLen; omega, by rw [va_size], ?_⟩⟩, fun _ => Nat.zero_lt_succ _, Nat.le_refl _⟩
  rw [← va_byL9]
  refine List.take_of_length_le ?_
  simp [va_size]
/-- an image's block is none of another type -/
theorem Img.apart {w : World} {B n k u : Nat} {v : Value} {X : Nat → Nat} {cs : Array Value} (h : Img w B v n X) (hk : Blk w k u cs) (hu : 49 ≠ u) : some k ≠ v.ownBlock := fun e => by
  obtain ⟨b, cap, rfl, _, _, _⟩ := own_some h.1 h.2.2
  rcases h.1.2 with ⟨h1, _⟩ | ⟨b', cap', cur, h1, _, hbb, _⟩
  · cases h1
  · injection h1 with h1
    injection h1 with h1
    injection h1 with h1
    subst h1
    have : k = b := Option.some.inj e
    subst this
    exact blk_apart hbb hk hu rfl
/-- a byte of an image turned -/
theorem img_put {w : World} {B b cap n : Nat} {X : Nat → Nat} (h : Img w B (.slice (some ⟨b, 0, none⟩) n cap) n X) (j : Nat) (hj : j < n * 256) (x : Nat) (hx : x < 256) : Img (w.setCell ⟨b, j, none⟩ (.int .u8 ((x : Nat) : Int))) B (.slice (some ⟨b, 0, none⟩) n cap) n fun y => if y = j then x else X y := by
  refine ⟨?_, fun y => ?_, h.2.2⟩
  · rcases h.1.2 with ⟨hn, _⟩ | ⟨g', cap', cur, hv, hb, hg, h1, h2, h3, h4⟩
    · cases hn
    · injection hv with hv1 hv2 hv3
      injection hv1 with hv1
      injection hv1 with hv1
      subst hv1 hv3
      have hB : Blk w b 49 cur := hg
      refine ⟨by simp [byL_length], .inr ⟨b, cap, cur.setIfInBounds j (.int .u8 ((x : Nat) : Int)), rfl, hb, hB.put j _, h1, h2, by simpa using h3, ?_⟩⟩
      have e : byL (fun y => if y = j then x else X y) (n * 256) = (byL X (n * 256)).set j (.int .u8 ((x : Nat) : Int)) := by
        refine List.ext_getElem? fun i => ?_
        rw [List.getElem?_set]
        by_cases hi : i < n * 256
        · rw [byL_at _ _ _ hi]
          by_cases hij : j = i
          · subst hij
            simp [byL_length, hi]
          · rw [if_neg hij, byL_at _ _ _ hi, if_neg (fun e => hij e.symm)]
        · rw [if_neg (by omega), List.getElem?_eq_none (by rw [byL_length]; omega), List.getElem?_eq_none (by rw [byL_length]; omega)]
      rw [e, ← h4]
      simp [List.take_set]
  · show (if _ then _ else _) < 256
    split
    · exact hx
    · exact h.2.1 y
theorem img_cell {w : World} {B b cap n : Nat} {X : Nat → Nat} (h : Img w B (.slice (some ⟨b, 0, none⟩) n cap) n X) (j : Nat) (hj : j < n * 256) : w.cell? ⟨b, j, none⟩ = some (.int .u8 ((X j : Nat) : Int)) := by
  obtain ⟨b', cap', hv, _, _, hc⟩ := own_some h.1 h.2.2
  injection hv with hv
  injection hv with hv
  injection hv with hv
  subst hv
  have := hc j _ (byL_at X (n * 256) j hj)
  rw [Addr.add_mid, Nat.zero_add] at this
  exact this
theorem img_frozen {w : World} {B b cap n : Nat} {X : Nat → Nat} (h : Img w B (.slice (some ⟨b, 0, none⟩) n cap) n X) (j : Nat) : w.frozen? ⟨b, j, none⟩ = false := by
  rcases h.1.2 with ⟨hn, _⟩ | ⟨g', cap', cur, hv, hb, hg, h1, h2, h3, h4⟩
  · cases hn
  · injection hv with hv1 hv2 hv3
    injection hv1 with hv1
    injection hv1 with hv1
    subst hv1
    exact (show Blk w b 49 cur from hg).frozen j
theorem tr_put0 (h h' : Int) (R : Rf) : (trC h R).setIfInBounds 0 (.int .i64 h') = trC h' R := by
  unfold trC
  rw [va_set]
  refine va_congr fun i hi => ?_
  unfold upd trF
  by_cases h0 : i = 0
  · rw [if_pos h0, if_pos h0]
  · rw [if_neg h0, if_neg h0, if_neg h0]
theorem tr_put1 (h : Int) (a : Nat) (R : Rf) : (trC h R).setIfInBounds 1 (.int .u32 ((a : Nat) : Int)) = trC h (a, R.2) := by
  unfold trC
  rw [va_set]
  refine va_congr fun i hi => ?_
  unfold upd trF
  by_cases h1 : i = 1
  · subst h1
    rw [if_pos rfl, if_neg (by decide)]
    rfl
  · rw [if_neg h1]
    by_cases h0 : i = 0
    · rw [if_pos h0, if_pos h0]
    · rw [if_neg h0, if_neg h0]
      unfold rfF
      rw [if_neg (by omega), if_neg (by omega)]
/-- what stands behind the leaves: an image, the caller's world, a result that is still none, a tree -/
structure MD (w wx : World) (b N cc : Nat) (X : Nat → Nat) (wo : Array Value) (xt : Nat) (h : Int) (R : Rf) : Prop where
  img : Img wx w.heap.size (.slice (some ⟨b, 0, none⟩) N cc) N X
  wo : Blk wx w.heap.size 25 wo
  res : Blk wx (w.heap.size + 1) 33 (trC 0 rf0)
  tr : Blk wx xt 33 (trC h R)
  below : Below w.heap.size w wx
theorem MD.set {w wx : World} {b N cc : Nat} {X : Nat → Nat} {wo : Array Value} {xt : Nat} {h h' : Int} {R R' : Rf} (H : MD w wx b N cc X wo xt h R) (hx : w.heap.size + 1 < xt) (i : Nat) (v : Value) (e : (trC h R).setIfInBounds i v = trC h' R') : MD w (wx.setCell ⟨xt, i, none⟩ v) b N cc X wo xt h' R' := by
  refine ⟨img_keep H.img fun k cs hk => Below.heap_setCell wx ⟨xt, i, none⟩ v k (blk_apart hk H.tr (by decide)), H.wo.put_other i v (by omega), H.res.put_other i v (by omega), ?_, H.below.setCell (p := ⟨xt, i, none⟩) (show w.heap.size ≤ xt by omega) v⟩
  rw [← e]
  exact H.tr.put i v
theorem MD.put {w wx : World} {b N cc : Nat} {X : Nat → Nat} {wo : Array Value} {xt : Nat} {h : Int} {R : Rf} (H : MD w wx b N cc X wo xt h R) (j : Nat) (hj : j < N * 256) (x : Nat) (hx : x < 256) : MD w (wx.setCell ⟨b, j, none⟩ (.int .u8 ((x : Nat) : Int))) b N cc (fun y => if y = j then x else X y) wo xt h R := by
  have ha : ∀ {k u : Nat} {cs : Array Value}, Blk wx k u cs → 49 ≠ u → k ≠ b := fun hk hu e => H.img.apart hk hu (by rw [e]; rfl)
  exact ⟨img_put H.img j hj x hx, H.wo.put_other j _ (ha H.wo (by decide)), H.res.put_other j _ (ha H.res (by decide)), H.tr.put_other j _ (ha H.tr (by decide)), H.below.setCell (p := ⟨b, j, none⟩) (own_lo H.img.1) _⟩
theorem MD.drew {w wx : World} {b N cc : Nat} {X : Nat → Nat} {wo : Array Value} {xt : Nat} {h : Int} {R : Rf} (H : MD w wx b N cc X wo xt h R) : MD w wx.drew b N cc X wo xt h R := ⟨H.img.below (Below.refl _ _).drew, H.wo, H.res, H.tr, H.below.drew⟩
theorem MD.keep {w wx wy : World} {b N cc : Nat} {X : Nat → Nat} {wo : Array Value} {xt : Nat} {h : Int} {R : Rf} (H : MD w wx b N cc X wo xt h R) (hb : Below wx.heap.size wx wy) : MD w wy b N cc X wo xt h R := ⟨H.img.below hb, H.wo.below hb H.wo.lt, H.res.below hb H.res.lt, H.tr.below hb H.tr.lt, H.below.trans (hb.mono H.below.size)⟩
theorem MD.cells {w wx : World} {b N cc : Nat} {X : Nat → Nat} {wo : Array Value} {xt : Nat} {h : Int} {R : Rf} (H : MD w wx b N cc X wo xt h R) : wx.cell? ⟨xt, 0, none⟩ = some (.int .i64 h) ∧ wx.cell? ⟨xt, 1, none⟩ = some (.int .u32 ((R.1 : Nat) : Int)) ∧ wx.frozen? ⟨xt, 0, none⟩ = false ∧ wx.frozen? ⟨xt, 1, none⟩ = false := ⟨(H.tr.cell 0).trans (va_at (trF h R) (by decide)), (H.tr.cell 1).trans (va_at (trF h R) (by decide)), H.tr.frozen 0, H.tr.frozen 1⟩
theorem img_blks {w : World} {B b cap n : Nat} {X : Nat → Nat} (h : Img w B (.slice (some ⟨b, 0, none⟩) n cap) n X) : IsBlks w (some ⟨b, 0, none⟩) n fun i => blkAt X i := by
  intro i hi
  obtain ⟨b', cap', hv, _, hlt, _⟩ := own_some h.1 h.2.2
  injection hv with hv
  injection hv with hv
  injection hv with hv
  subst hv
  refine ⟨b, 0, rfl, hlt, fun j v hj => ?_⟩
  have hj2 : j < 256 := by
    have := (List.getElem?_eq_some_iff.1 hj).1
    simpa using this
  rw [show 0 + i * 256 + j = i * 256 + j by omega, img_cell h _ (by omega), ← hj]
  simp [hj2, iv, blkAt]
/-- the blocks that were appended, so far -/
def preX (X : Nat → Nat) (j : Nat) : Nat → Nat := fun x => if x < j * 256 then X x else 0
theorem pre_ap (X : Nat → Nat) (j : Nat) : byL (apX (preX X j) j (blkAt X j)) ((j + 1) * 256) = byL (preX X (j + 1)) ((j + 1) * 256) := by
  unfold byL
  refine List.map_congr_left fun x hx => ?_
  have hx2 := List.mem_range.1 hx
  have e : apX (preX X j) j (blkAt X j) x = preX X (j + 1) x := by
    unfold apX preX blkAt
    by_cases h : x < j * 256
    · rw [if_pos h, if_pos h, if_pos hx2]
    · rw [if_neg h, if_pos hx2]
      congr 1
      omega
  rw [e]
theorem own_blks9 {w : World} {B e g cap n : Nat} {X : Nat → Nat} (h : w.ownsRow B e 256 (.slice (some ⟨g, 0, none⟩) n cap) n (byL (preX X n) (n * 256))) : IsBlks w (some ⟨g, 0, none⟩) n fun i => blkAt X i := by
  intro i hi
  obtain ⟨b', cap', hv, _, hlt, hc⟩ := own_some h (by omega)
  injection hv with hv
  injection hv with hv
  injection hv with hv
  subst hv
  refine ⟨g, 0, rfl, hlt, fun j v hj => ?_⟩
  have hj2 : j < 256 := by
    have := (List.getElem?_eq_some_iff.1 hj).1
    simpa using this
  have h1 := hc (i * 256 + j) _ (byL_at _ _ _ (by omega))
  rw [Addr.add_mid, Nat.zero_add] at h1
  rw [show 0 + i * 256 + j = i * 256 + j by omega, h1, ← hj]
  simp [hj2, iv, blkAt, preX, show i * 256 + j < n * 256 by omega]
theorem results_made {P : Program} {fn : Func} {p u v x : Tmp} {ty : TypeId} (h : fn.results = #[.tmp u, .tmp v, .cell p ty, .tmp x]) (tmps : Array Value) (w : World) (g1 : Nat) (t1 : TypeId) (cs1 : Array Value) (d1 : TypeDesc)
    (hp1 : tmps.getD p undef = .pointer (some ⟨g1, 0, none⟩)) (hg1 : Blk w g1 t1 cs1)
    (hu1 : P.underlying ty = some d1) (hd1 : (match d1 with | .struct _ | .array _ _ => true | _ => false) = true) (hi1 : (P.info? ty).map (·.size) = some cs1.size) :
    (results fn tmps).run P w = .ok (.tuple #[tmps.getD u undef, tmps.getD v undef, .agg cs1, tmps.getD x undef]) w := by
  have hp1' : tmps[p]?.getD undef = .pointer (some ⟨g1, 0, none⟩) := by simpa using hp1
  simp [results, h, hp1', asAddr, run_loadVar_row w g1 t1 ty cs1 (0, 0) d1 hg1 hu1 hd1 hi1]
theorem img_keepb {w w' : World} {B b cap n : Nat} {X : Nat → Nat} (h : Img w B (.slice (some ⟨b, 0, none⟩) n cap) n X) (hk : w'.heap[b]? = w.heap[b]?) : Img w' B (.slice (some ⟨b, 0, none⟩) n cap) n X := by
  refine ⟨⟨h.1.1, ?_⟩, h.2⟩
  rcases h.1.2 with ⟨hn, _⟩ | ⟨g', cap', cur, hv, hb, hg, rest⟩
  · cases hn
  · injection hv with hv1 hv2 hv3
    injection hv1 with hv1
    injection hv1 with hv1
    subst hv1 hv3
    exact .inr ⟨b, cap, cur, rfl, hb, hk.trans hg, rest⟩
theorem loadF_at (X : Nat → Nat) (N : Nat) : ∀ x, x < N * 256 → loadF (fun i => blkAt X i) (fun _ => 0) N x = X x := fun x hx => by
  unfold loadF blkAt
  rw [if_pos (Nat.div_lt_of_lt_mul (by omega))]
  show X (x / 256 * 256 + x % 256) = X x
  rw [Nat.div_add_mod']
theorem loadF_lt {X : Nat → Nat} (hX : ∀ x, X x < 256) (N : Nat) (x : Nat) : loadF (fun i => blkAt X i) (fun _ => 0) N x < 256 := by
  unfold loadF blkAt
  split
  · exact hX _
  · exact Nat.zero_lt_succ _
theorem isBlks_congr {w : World} {a : Option Addr} {n : Nat} {L L' : Nat → Nat → Nat} (h : IsBlks w a n L) (he : ∀ i, i < n → ∀ j, j < 256 → L i j = L' i j) : IsBlks w a n L' := fun i hi => by
  obtain ⟨b, o, h1, h2, h3⟩ := h i hi
  refine ⟨b, o, h1, h2, ?_⟩
  have e : (List.range 256).map (iv .u8 (L' i)) = (List.range 256).map (iv .u8 (L i)) := List.map_congr_left fun j hj => by
    unfold iv
    rw [he i hi j (List.mem_range.1 hj)]
  rw [e]
  exact h3
/-- how long a slice is -/
def imN : Value → Nat
  | .slice _ n _ => n
  | _ => 0
end Go.Proofs.YtiofonffmplfmaaGreat

namespace Go.Proofs.YtiofonffmplfmaaGreat
open Go Go.RowKit
set_option linter.unusedSimpArgs false
set_option linter.unusedVariables false

theorem made_fin {w wc wl : World} {b N cc g c2 m2 room xt B1 Bf : Nat} {X3 : Nat → Nat} {wo : Array Value} {h2 : Int} {R : Rf} {q : QD} {l9 : List ((Int × Int) × Vector Nat 256)} {G9 : List (List Nat)} {ss9 : List Value}
    (hB1 : w.heap.size + 1 < B1) (hbB : b < B1) (hxB : xt < B1) (hx0 : w.heap.size + 1 < xt) (hBf : B1 ≤ Bf) (hsz : Bf ≤ wc.heap.size)
    (HM : MD w wc b N cc X3 wo xt h2 R) (HFT : ∀ z, foot g N q z → B1 ≤ z ∧ z < Bf)
    (HQ9 : DiskQ wl B1 g N (loadF (fun i => blkAt X3 i) (fun _ => 0) N) 0 0 { q with l := l9, G := G9, ss := ss9 }) (HV : Moved g N q { q with l := l9, G := G9, ss := ss9 } wc.drew wl) (HQu : Quiet q 0)
    (hc : Blk wc c2 133 (caC (some ⟨g, 0, none⟩) none (room : Int) m2 none none 0 0 0 0)) (hm : MapIs rfV ptV wc m2 []) (hcB : Bf ≤ c2 ∧ Bf ≤ m2) (hr : room ≤ 4096) (hN : 16 ≤ N ∧ N ≤ 8192) :
    TD (wl.setRow (w.heap.size + 1) (trC h2 R)) B1 g N (loadF (fun i => blkAt X3 i) (fun _ => 0) N) c2 m2 room 0 (cdfo g N { q with l := l9, G := G9, ss := ss9 } c2 m2 []) ∧ (IsBlks (wl.setRow (w.heap.size + 1) (trC h2 R)) (some ⟨b, 0, none⟩) N fun i => blkAt (loadF (fun i => blkAt X3 i) (fun _ => 0) N) i) ∧ (∀ x, loadF (fun i => blkAt X3 i) (fun _ => 0) N x < 256) ∧ Below w.heap.size w (wl.setRow (w.heap.size + 1) (trC h2 R)) := by
  obtain ⟨q9, hq9⟩ : ∃ q9, q9 = { q with l := l9, G := G9, ss := ss9 } := ⟨_, rfl⟩
  have HQu9 : Quiet q9 0 := by
    subst hq9
    exact ⟨HQu.dd, HQu.pl, HQu.cu, HQu.ev0, HQu.ev1, HQu.ones⟩
  rw [← hq9] at HQ9 HV ⊢
  clear hq9
  obtain ⟨F9, hF9⟩ : ∃ F9, F9 = loadF (fun i => blkAt X3 i) (fun _ => 0) N := ⟨_, rfl⟩
  have hF1 : ∀ x, x < N * 256 → F9 x = X3 x := by rw [hF9]; exact loadF_at X3 N
  have hF2 : ∀ x, F9 x < 256 := by rw [hF9]; exact loadF_lt HM.img.2.1 N
  rw [← hF9] at HQ9 ⊢
  clear hF9
  have hcl : c2 < wc.heap.size := hc.lt
  have hml : m2 < wc.heap.size := hm.lt
  have hs : wc.heap.size ≤ wl.heap.size := HV.1.size
  have hbb : b ≠ w.heap.size + 1 := fun e => HM.img.apart HM.res (by decide) (by subst e; rfl)
  have nf : ∀ z, z < B1 ∨ Bf ≤ z → ¬ foot g N q z := fun z hz u => by
    have := HFT z u
    omega
  have hcw : Blk wc.drew c2 133 (caC (some ⟨g, 0, none⟩) none (room : Int) m2 none none 0 0 0 0) := hc
  have hc9 := HV.1.blk hcw (nf c2 (.inr hcB.1))
  have hm9 : MapIs rfV ptV wl m2 [] := hm.of (HV.1.block m2 hml (nf m2 (.inr hcB.2)))
  have hi9 : Img wl w.heap.size (.slice (some ⟨b, 0, none⟩) N cc) N X3 := img_keepb HM.img (HV.1.block b (show b < wc.heap.size by omega) (nf b (.inl hbB)))
  have n9 : ∀ z, z < wc.heap.size → Bf ≤ z → ¬ foot g N q9 z := fun z h1 h2 u => by
    rcases HV.2 z u with y | y
    · exact nf z (.inr h2) y
    · have : wc.heap.size ≤ z := y
      omega
  have hq : DiskQ (wl.setRow (w.heap.size + 1) (trC h2 R)) B1 g N F9 0 0 q9 := HQ9.kept fun z hz => setRow_other _ _ z _ (by have := (HQ9.foots z hz).1; omega)
  have hsize : B1 ≤ (wl.setRow (w.heap.size + 1) (trC h2 R)).heap.size := by
    simp
    omega
  refine ⟨td_new hq HQu9 (hc9.other _ (by omega)) (hm9.of (setRow_other _ _ m2 _ (by omega))) (by omega) hN.2 hr hsize (n9 c2 hcl hcB.1) (n9 m2 hml hcB.2) (by omega) (by omega), isBlks_congr (img_blks (img_keepb hi9 (setRow_other _ _ b _ hbb))) (fun i hi j hj => (hF1 (i * 256 + j) (by omega)).symm), hF2, ?_⟩
  exact below_setRow (HM.below.drew.trans (HV.1.below (B := w.heap.size) HM.below.size fun z hz => by have := (HFT z hz).1; omega)) (by omega) _
end Go.Proofs.YtiofonffmplfmaaGreat
