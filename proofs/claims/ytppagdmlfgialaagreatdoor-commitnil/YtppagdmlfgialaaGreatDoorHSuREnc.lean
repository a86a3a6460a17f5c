/- The document's Encode of roots. -/
import Derived.Test.YtppagdmlfgialaaGreatDoorHSuNum
import Derived.Test.YtppagdmlfgialaaGreatDoorHInsOpen
import Derived.Handy
import Derived.Test.YtppagdmlfgialaaGreatDoorHBlkGrp
import Derived.BigQuiet
import Derived.Deep.QuietTactic

namespace Go.Proofs.YtppagdmlfgialaaGreatDoor
theorem sgLHSuREnc : (∀ (α : Type) (a : α) (l r : List α), (a :: l) ++ r = a :: (l ++ r)) ∧ (∀ (α : Type) (l : List α), [] ++ l = l) ∧ (∀ (α : Type) (l : List α), l ++ [] = l) ∧ (∀ (α β : Type) (f : α → Option β) (a : α) (l : List α), (a :: l).filterMap f = match f a with | none => l.filterMap f | some b => b :: l.filterMap f) ∧ (∀ (α β : Type) (f : α → Option β), [].filterMap f = []) ∧ (∀ (α : Type) (l : List α) (i : Nat), l.toArray[i]? = l[i]?) ∧ (∀ (α : Type) (a : α) (l : List α), (a :: l)[0]? = some a) ∧ (∀ (α : Type) (a : α) (l : List α) (i : Nat), (a :: l)[i + 1]? = l[i]?) :=
  ⟨fun _ _ _ _ => List.cons_append, fun _ _ => List.nil_append _, fun _ _ => List.append_nil _, fun _ _ _ _ _ => List.filterMap_cons, fun _ _ _ => List.filterMap_nil, fun _ _ _ => List.getElem?_toArray, fun _ _ _ => List.getElem?_cons_zero, fun _ _ _ _ => List.getElem?_cons_succ⟩
theorem sgPHSuREnc : (∀ (α : Type) (l : List α) (i : Nat) (a : α), l.toArray.setIfInBounds i a = (l.set i a).toArray) ∧ (∀ (α : Type) (a b : α) (l : List α), (a :: l).set 0 b = b :: l) ∧ (∀ (α : Type) (a b : α) (l : List α) (i : Nat), (a :: l).set (i + 1) b = a :: l.set i b) :=
  ⟨fun _ _ _ _ => List.setIfInBounds_toArray _ _ _, fun _ _ _ _ => List.set_cons_zero, fun _ _ _ _ _ => List.set_cons_succ⟩
end Go.Proofs.YtppagdmlfgialaaGreatDoor
namespace Go.Proofs.YtppagdmlfgialaaGreatDoor
open Go Go.RowKit
set_option linter.unusedSimpArgs false
set_option linter.unusedVariables false
set_option maxRecDepth 20000
theorem sz32u : (Tryz.prog.info? 38).map (·.size) = some 32 := by kernel_rfl
theorem su_rTS {w : World} {g : Nat} {x : Sup} {T : TypeId} (h : Blk w g T (suC x)) : w.rangeAt g 4 ((List.range 32).map (iv .u8 (dF x.tr.2))) := by
  have q := World.rangeAt_of_block (b := g) h 4 32
  rw [su_tsum] at q
  rwa [va_toList] at q
theorem su_rMS {w : World} {g : Nat} {x : Sup} {T : TypeId} (h : Blk w g T (suC x)) : w.rangeAt g 39 ((List.range 32).map (iv .u8 (dF x.mr.2))) := by
  have q := World.rangeAt_of_block (b := g) h 39 32
  rw [su_msum] at q
  rwa [va_toList] at q
theorem suB_step (x : Sup) (hx : SuW x) (a n : Nat) (g : Nat → Nat) (h : ∀ j, j < n → suB x (a + j) = g j) : strN (suB x) a ++ strN g n = strN (suB x) (a + n) := by
  have e := strN_append (suB x) a n fun j _ => suB_lt x hx j
  rw [strN_congr (f := fun j => suB x (a + j)) (g := g) fun j hj => h j hj] at e
  exact e
theorem dig_none (i : Nat) : dig 0 i = 0 := by unfold dig; simp
theorem suB_b (x : Sup) (hx : SuW x) : strN (suB x) 8 ++ strN (dig x.b.toNat) 4 = strN (suB x) 12 := suB_step x hx 8 4 _ fun j hj => by
  unfold suB
  rw [if_neg (by omega), if_pos (by omega), show 8 + j - 8 = j by omega]
theorem suB_z (x : Sup) (hx : SuW x) : strN (suB x) 12 ++ strN (dig 0) 4 = strN (suB x) 16 := suB_step x hx 12 4 _ fun j hj => by
  unfold suB
  rw [if_neg (by omega), if_neg (by omega), if_pos (by omega), dig_none]
theorem suB_c (x : Sup) (hx : SuW x) : strN (suB x) 16 ++ strN (dig x.c) 8 = strN (suB x) 24 := suB_step x hx 16 8 _ fun j hj => by
  unfold suB
  rw [if_neg (by omega), if_neg (by omega), if_neg (by omega), if_pos (by omega), show 16 + j - 16 = j by omega]
theorem suB_th (x : Sup) (hx : SuW x) : strN (suB x) 24 ++ strN (dig x.th.toNat) 4 = strN (suB x) 28 := suB_step x hx 24 4 _ fun j hj => by
  unfold suB
  rw [if_neg (by omega), if_neg (by omega), if_neg (by omega), if_neg (by omega), if_pos (by omega), show 24 + j - 24 = j by omega]
theorem suB_n (x : Sup) (hx : SuW x) : strN (suB x) 28 ++ strN (dig x.n.toNat) 4 = strN (suB x) 32 := suB_step x hx 28 4 _ fun j hj => by
  unfold suB
  rw [if_neg (by omega), if_neg (by omega), if_neg (by omega), if_neg (by omega), if_neg (by omega), if_pos (by omega), show 28 + j - 28 = j by omega]
theorem suB_ta (x : Sup) (hx : SuW x) : strN (suB x) 32 ++ strN (dig x.tr.1) 4 = strN (suB x) 36 := suB_step x hx 32 4 _ fun j hj => by
  unfold suB
  rw [if_neg (by omega), if_neg (by omega), if_neg (by omega), if_neg (by omega), if_neg (by omega), if_neg (by omega), if_pos (by omega)]
  unfold encR
  rw [if_pos (by omega), show 32 + j - 32 = j by omega]
theorem suB_ts (x : Sup) (hx : SuW x) : strN (suB x) 36 ++ strN (dF x.tr.2) 32 = strN (suB x) 68 := suB_step x hx 36 32 _ fun j hj => by
  unfold suB
  rw [if_neg (by omega), if_neg (by omega), if_neg (by omega), if_neg (by omega), if_neg (by omega), if_neg (by omega), if_pos (by omega)]
  unfold encR
  rw [if_neg (by omega), show 36 + j - 32 - 4 = j by omega]
theorem suB_mh (x : Sup) (hx : SuW x) : strN (suB x) 68 ++ strN (dig x.mh.toNat) 4 = strN (suB x) 72 := suB_step x hx 68 4 _ fun j hj => by
  unfold suB
  rw [if_neg (by omega), if_neg (by omega), if_neg (by omega), if_neg (by omega), if_neg (by omega), if_neg (by omega), if_neg (by omega), if_pos (by omega), show 68 + j - 68 = j by omega]
theorem suB_ma (x : Sup) (hx : SuW x) : strN (suB x) 72 ++ strN (dig x.mr.1) 4 = strN (suB x) 76 := suB_step x hx 72 4 _ fun j hj => by
  unfold suB
  rw [if_neg (by omega), if_neg (by omega), if_neg (by omega), if_neg (by omega), if_neg (by omega), if_neg (by omega), if_neg (by omega), if_neg (by omega), if_pos (by omega)]
  unfold encR
  rw [if_pos (by omega), show 72 + j - 72 = j by omega]
theorem suB_ms (x : Sup) (hx : SuW x) : strN (suB x) 76 ++ strN (dF x.mr.2) 32 = strN (suB x) 108 := suB_step x hx 76 32 _ fun j hj => by
  unfold suB
  rw [if_neg (by omega), if_neg (by omega), if_neg (by omega), if_neg (by omega), if_neg (by omega), if_neg (by omega), if_neg (by omega), if_neg (by omega), if_pos (by omega)]
  unfold encR
  rw [if_neg (by omega), show 76 + j - 72 - 4 = j by omega]
theorem suB_u (x : Sup) (hx : SuW x) : strN (suB x) 108 ++ strN (dig x.u.toNat) 4 = strN (suB x) 112 := suB_step x hx 108 4 _ fun j hj => by
  unfold suB
  rw [if_neg (by omega), if_neg (by omega), if_neg (by omega), if_neg (by omega), if_neg (by omega), if_neg (by omega), if_neg (by omega), if_neg (by omega), if_neg (by omega), if_pos (by omega), show 108 + j - 108 = j by omega]
theorem suB_zero (x : Sup) (hx : SuW x) (k : Nat) (hk : 112 ≤ k) : strN (suB x) k ++ strN (dig 0) 1 = strN (suB x) (k + 1) := suB_step x hx k 1 _ fun j hj => by
  unfold suB
  rw [if_neg (by omega), if_neg (by omega), if_neg (by omega), if_neg (by omega), if_neg (by omega), if_neg (by omega), if_neg (by omega), if_neg (by omega), if_neg (by omega), if_neg (by omega), dig_none]
theorem suB_mark (x : Sup) : ({ data := #[115, 105, 103, 110, 101, 116, 48, 49] } : ByteArray) = strN (suB x) 8 := by
  show markB = strN (suB x) 8
  refine (text_ext (by rw [strN_size]; rfl) fun j hj => ?_)
  have h8 : j < 8 := hj
  rw [strN_at _ _ _ h8 (by unfold suB; rw [if_pos h8]; exact tbyte_lt _ _)]
  unfold suB
  rw [if_pos h8]
set_option maxRecDepth 100000 in
set_option maxHeartbeats 4000000 in
theorem rsencode_ok (x : Sup) (hx : SuW x) (hc : sck x = true) (w : World) : Calls Tryz.prog 48 #[.agg (suC x)] w fun e w' => e = .returned (.tuple #[.string (strN (suB x) 256), .bool true]) ∧ Below w.heap.size w w' := by
  have HC : Hid (∀ w, Calls Tryz.prog 94 #[.agg (suC x)] w fun e w' => e = .returned (.bool true) ∧ Below w.heap.size w w') := by
    have := rscheck_any x hx
    rw [hc] at this
    exact this
  have hk := sck_all x hc
  have Nb : Hid (∀ w, Calls Tryz.prog 95 #[.int .u64 x.b, .int .i64 4] w fun e w' => e = .returned (.string (strN (dig x.b.toNat) 4)) ∧ Below w.heap.size w w') := by
    have := snum_any (x.b.toNat) 4 (by omega) (by decide) (by decide)
    rw [show ((x.b.toNat : Nat) : Int) = x.b by omega] at this
    exact this
  have Nz : Hid (∀ w, Calls Tryz.prog 95 #[.int .u64 0, .int .i64 4] w fun e w' => e = .returned (.string (strN (dig 0) 4)) ∧ Below w.heap.size w w') := snum_any (0) 4 (by omega) (by decide) (by decide)
  have Nc : Hid (∀ w, Calls Tryz.prog 95 #[.int .u64 ((x.c : Nat) : Int), .int .i64 8] w fun e w' => e = .returned (.string (strN (dig x.c) 8)) ∧ Below w.heap.size w w') := snum_any (x.c) 8 hx.c (by decide) (by decide)
  have Nth : Hid (∀ w, Calls Tryz.prog 95 #[.int .u64 x.th, .int .i64 4] w fun e w' => e = .returned (.string (strN (dig x.th.toNat) 4)) ∧ Below w.heap.size w w') := by
    have := snum_any (x.th.toNat) 4 (by omega) (by decide) (by decide)
    rw [show ((x.th.toNat : Nat) : Int) = x.th by omega] at this
    exact this
  have Nn : Hid (∀ w, Calls Tryz.prog 95 #[.int .u64 x.n, .int .i64 4] w fun e w' => e = .returned (.string (strN (dig x.n.toNat) 4)) ∧ Below w.heap.size w w') := by
    have := snum_any (x.n.toNat) 4 (by omega) (by decide) (by decide)
    rw [show ((x.n.toNat : Nat) : Int) = x.n by omega] at this
    exact this
  have Nta : Hid (∀ w, Calls Tryz.prog 95 #[.int .u64 ((x.tr.1 : Nat) : Int), .int .i64 4] w fun e w' => e = .returned (.string (strN (dig x.tr.1) 4)) ∧ Below w.heap.size w w') := snum_any (x.tr.1) 4 (by have := hx.ta; omega) (by decide) (by decide)
  have Nts : Hid (∀ w, Calls Tryz.prog 96 #[.agg (va 32 (iv .u8 (dF x.tr.2)))] w fun e w' => e = .returned (.string (strN (dF x.tr.2) 32)) ∧ Below w.heap.size w w') := ssum_any (dF x.tr.2) hx.td
  have Nmh : Hid (∀ w, Calls Tryz.prog 95 #[.int .u64 x.mh, .int .i64 4] w fun e w' => e = .returned (.string (strN (dig x.mh.toNat) 4)) ∧ Below w.heap.size w w') := by
    have := snum_any (x.mh.toNat) 4 (by omega) (by decide) (by decide)
    rw [show ((x.mh.toNat : Nat) : Int) = x.mh by omega] at this
    exact this
  have Nma : Hid (∀ w, Calls Tryz.prog 95 #[.int .u64 ((x.mr.1 : Nat) : Int), .int .i64 4] w fun e w' => e = .returned (.string (strN (dig x.mr.1) 4)) ∧ Below w.heap.size w w') := snum_any (x.mr.1) 4 (by have := hx.ma; omega) (by decide) (by decide)
  have Nms : Hid (∀ w, Calls Tryz.prog 96 #[.agg (va 32 (iv .u8 (dF x.mr.2)))] w fun e w' => e = .returned (.string (strN (dF x.mr.2) 32)) ∧ Below w.heap.size w w') := ssum_any (dF x.mr.2) hx.md
  have Nu : Hid (∀ w, Calls Tryz.prog 95 #[.int .u64 x.u, .int .i64 4] w fun e w' => e = .returned (.string (strN (dig x.u.toNat) 4)) ∧ Below w.heap.size w w') := by
    have := snum_any (x.u.toNat) 4 (by omega) (by decide) (by decide)
    rw [show ((x.u.toNat : Nat) : Int) = x.u by omega] at this
    exact this
  have Ne : Hid (∀ w, Calls Tryz.prog 95 #[.int .u64 0, .int .i64 1] w fun e w' => e = .returned (.string (strN (dig 0) 1)) ∧ Below w.heap.size w w') := snum_any 0 1 (by decide) (by decide) (by decide)
  have hsb : (strN (dig x.b.toNat) 4).size = 4 := strN_size _ _
  have hsz : (strN (dig 0) 4).size = 4 := strN_size _ _
  have hsc : (strN (dig x.c) 8).size = 8 := strN_size _ _
  have hsth : (strN (dig x.th.toNat) 4).size = 4 := strN_size _ _
  have hsn : (strN (dig x.n.toNat) 4).size = 4 := strN_size _ _
  have hsta : (strN (dig x.tr.1) 4).size = 4 := strN_size _ _
  have hsts : (strN (dF x.tr.2) 32).size = 32 := strN_size _ _
  have hsmh : (strN (dig x.mh.toNat) 4).size = 4 := strN_size _ _
  have hsma : (strN (dig x.mr.1) 4).size = 4 := strN_size _ _
  have hsms : (strN (dF x.mr.2) 32).size = 32 := strN_size _ _
  have hsu : (strN (dig x.u.toNat) 4).size = 4 := strN_size _ _
  have hse : (strN (dig 0) 1).size = 1 := strN_size _ _
  have J1 : Hid ((({ data := #[115, 105, 103, 110, 101, 116, 48, 49] } : ByteArray) ++ strN (dig x.b.toNat) 4) ++ strN (dig 0) 4 ++ strN (dig x.c) 8 = strN (suB x) 24) := by
    show _ = _
    rw [suB_mark x, suB_b x hx, suB_z x hx, suB_c x hx]
  have J2 : Hid (strN (suB x) 24 ++ (strN (dig x.th.toNat) 4 ++ strN (dig x.n.toNat) 4 ++ strN (dig x.tr.1) 4 ++ strN (dF x.tr.2) 32) = strN (suB x) 68) := by
    show _ = _
    rw [← ByteArray.append_assoc, ← ByteArray.append_assoc, ← ByteArray.append_assoc, suB_th x hx, suB_n x hx, suB_ta x hx, suB_ts x hx]
  have J3 : Hid (strN (suB x) 68 ++ (strN (dig x.mh.toNat) 4 ++ strN (dig x.mr.1) 4 ++ strN (dF x.mr.2) 32 ++ strN (dig x.u.toNat) 4) = strN (suB x) 112) := by
    show _ = _
    rw [← ByteArray.append_assoc, ← ByteArray.append_assoc, ← ByteArray.append_assoc, suB_mh x hx, suB_ma x hx, suB_ms x hx, suB_u x hx]
  have J4 : Hid (∀ k, 112 ≤ k → strN (suB x) k ++ strN (dig 0) 1 = strN (suB x) (k + 1)) := suB_zero x hx
  have Z : ∀ k, (strN (suB x) k).size = k := fun k => strN_size _ _
  generalize suB x = B at *
  generalize strN (dig x.b.toNat) 4 = Tb at *
  generalize strN (dig 0) 4 = Tz at *
  generalize strN (dig x.c) 8 = Tc at *
  generalize strN (dig x.th.toNat) 4 = Tth at *
  generalize strN (dig x.n.toNat) 4 = Tn at *
  generalize strN (dig x.tr.1) 4 = Tta at *
  generalize strN (dF x.tr.2) 32 = Tts at *
  generalize strN (dig x.mh.toNat) 4 = Tmh at *
  generalize strN (dig x.mr.1) 4 = Tma at *
  generalize strN (dF x.mr.2) 32 = Tms at *
  generalize strN (dig x.u.toNat) 4 = Tu at *
  generalize strN (dig 0) 1 = Te at *
  have Vb : IntKind.u64.wrap x.b = x.b := by rw [IntKind.wrap_u64]; omega
  have Vth : IntKind.u64.wrap x.th = x.th := by rw [IntKind.wrap_u64]; omega
  have Vn : IntKind.u64.wrap x.n = x.n := by rw [IntKind.wrap_u64]; omega
  have Vmh : IntKind.u64.wrap x.mh = x.mh := by rw [IntKind.wrap_u64]; omega
  have Vu : IntKind.u64.wrap x.u = x.u := by rw [IntKind.wrap_u64]; omega
  have Vtr : IntKind.u64.wrap ((x.tr.1 : Nat) : Int) = ((x.tr.1 : Nat) : Int) := su_wrap _ (by have := hx.ta; have := hx.ma; omega)
  have Vmr : IntKind.u64.wrap ((x.mr.1 : Nat) : Int) = ((x.mr.1 : Nat) : Int) := su_wrap _ (by have := hx.ta; have := hx.ma; omega)
  clear hk hx hc
  have r0 : Blk (w.alloc (.cells (suC x) 74)) w.heap.size 74 (suC x) := Blk.new _ _ _
  have hb : Below w.heap.size w (w.alloc (.cells (suC x) 74)) := below_new1 _ _
  go_enter Tryz.func48, Tryz.ntmps48
  go_wp2_with (first | (refine wpList_load_rowg (by rfl) 74 _ (by rfl) (w.heap.size) (by rfl) 74 (suC (x)) (0, 0) _ (by exact r0) Tryz.underlying74 (by rfl) (sizeRSup.trans (by rw [suC_size])) ?_; simp only [Act.put, sgPHSuREnc]) | fail)
  generalize (w.alloc (.cells (suC x) 74)) = W at *
  refine (HC.out _).mono ?_
  rintro e w1 ⟨rfl, hb1⟩
  have hS : Hid (Blk w1 w.heap.size 74 (suC x) ∧ Below w.heap.size w w1) := ⟨r0.below hb1 r0.lt, hb.trans (hb1.mono hb.size)⟩
  clear r0 hb hb1 HC
  go_wp2_with fail
  have hS0 : Hid (Blk w1.drew w.heap.size 74 (suC x) ∧ Below w.heap.size w w1.drew) := ⟨hS.out.1.drew, hS.out.2.drew⟩
  clear hS
  refine wp_region_partsS (fun U => Hid (Blk U w.heap.size 74 (suC x) ∧ Below w.heap.size w U)) [([], 0, true), ([], 1, true), ([], 2, true), ([], 7, true), ([], 8, true), ([], 3, false), ([], 4, true), ([], 5, false), ([], 6, true), ([], 9, false), ([], 10, false)] [11] [] (by kernel_rfl) (by kernel_rfl) hS0 (partsI_yield ?_)
  simp only [sgLHSuREnc]
  go_wp2_with fail
  refine ⟨rfl, _, .pointer (some ⟨w.heap.size, 0, none⟩), rfl, Or.inl ⟨by rfl, fun W hW => by go_simp⟩, partsI_yield ?_⟩
  simp only [Act.put, sgPHSuREnc]
  simp only [sgLHSuREnc]
  go_wp2_with fail
  refine ⟨rfl, _, .int .i64 x.b, rfl, Or.inl ⟨by rfl, fun W hW => by have hc := sup_c0 hW.out.1; go_simp⟩, partsI_yield ?_⟩
  simp only [Act.put, sgPHSuREnc]
  simp only [sgLHSuREnc]
  go_wp2_with fail
  refine ⟨rfl, _, .int .u64 x.b, rfl, Or.inl ⟨by rfl, fun W hW => by go_simp⟩, partsI_yield ?_⟩
  simp only [Act.put, sgPHSuREnc]
  simp only [sgLHSuREnc]
  go_wp2_with fail
  refine ⟨rfl, _, .pointer (some ⟨w.heap.size, 1, none⟩), rfl, Or.inl ⟨by rfl, fun W hW => by go_simp⟩, partsI_yield ?_⟩
  simp only [Act.put, sgPHSuREnc]
  simp only [sgLHSuREnc]
  go_wp2_with fail
  refine ⟨rfl, _, .int .u64 ((x.c : Nat) : Int), rfl, Or.inl ⟨by rfl, fun W hW => by have hc := sup_c1 hW.out.1; go_simp⟩, partsI_force ?_⟩
  simp only [Act.put, sgPHSuREnc]
  simp only [sgLHSuREnc]
  go_wp2_with fail
  refine (Nb.out _).mono ?_
  rintro e y1 ⟨rfl, hy1⟩
  have hS1 : Hid (Blk y1 w.heap.size 74 (suC x) ∧ Below w.heap.size w y1) := ⟨hS0.out.1.below hy1 hS0.out.1.lt, hS0.out.2.trans (hy1.mono hS0.out.2.size)⟩
  clear hy1 hS0
  go_wp2_with fail
  refine ⟨rfl, hS1, partsI_yield ?_⟩
  simp only [sgLHSuREnc]
  go_wp2_with fail
  refine ⟨rfl, _, .string (({ data := #[115, 105, 103, 110, 101, 116, 48, 49] } : ByteArray) ++ Tb), rfl, Or.inl ⟨by rfl, fun W hW => by go_simp⟩, partsI_force ?_⟩
  simp only [Act.put, sgPHSuREnc]
  simp only [sgLHSuREnc]
  go_wp2_with fail
  refine (Nz.out _).mono ?_
  rintro e y2 ⟨rfl, hy2⟩
  have hS2 : Hid (Blk y2 w.heap.size 74 (suC x) ∧ Below w.heap.size w y2) := ⟨hS1.out.1.below hy2 hS1.out.1.lt, hS1.out.2.trans (hy2.mono hS1.out.2.size)⟩
  clear hy2 hS1
  go_wp2_with fail
  refine ⟨rfl, hS2, partsI_yield ?_⟩
  simp only [sgLHSuREnc]
  go_wp2_with fail
  refine ⟨rfl, _, .string (({ data := #[115, 105, 103, 110, 101, 116, 48, 49] } : ByteArray) ++ Tb ++ Tz), rfl, Or.inl ⟨by rfl, fun W hW => by go_simp⟩, partsI_force ?_⟩
  simp only [Act.put, sgPHSuREnc]
  simp only [sgLHSuREnc]
  go_wp2_with fail
  refine (Nc.out _).mono ?_
  rintro e y3 ⟨rfl, hy3⟩
  have hS3 : Hid (Blk y3 w.heap.size 74 (suC x) ∧ Below w.heap.size w y3) := ⟨hS2.out.1.below hy3 hS2.out.1.lt, hS2.out.2.trans (hy3.mono hS2.out.2.size)⟩
  clear hy3 hS2
  go_wp2_with fail
  refine ⟨rfl, hS3, partsI_force ?_⟩
  simp only [sgLHSuREnc]
  go_wp2_with fail
  refine ⟨rfl, hS3, partsI_last ?_⟩
  simp only [sgLHSuREnc]
  go_wp2_with fail
  refine ⟨rfl, ?_⟩
  go_wp2_with fail
  rw [J1.out]
  have q24 := Z 24
  have hS0 : Hid (Blk y3.drew w.heap.size 74 (suC x) ∧ Below w.heap.size w y3.drew) := ⟨hS3.out.1.drew, hS3.out.2.drew⟩
  clear hS3
  generalize strN B 24 = B24 at *
  refine wp_region_partsS (fun U => Hid (Blk U w.heap.size 74 (suC x) ∧ Below w.heap.size w U)) [([0], 1, true), ([], 2, true), ([], 3, true), ([], 4, true), ([], 6, true), ([], 7, true), ([], 8, true), ([], 11, true), ([], 12, true), ([], 13, true), ([], 14, true), ([], 15, true), ([], 18, true), ([], 19, true), ([], 20, true), ([], 21, true), ([], 5, false), ([], 9, false), ([], 10, true), ([], 16, false), ([], 17, true), ([], 22, false), ([], 23, false), ([], 24, false)] [25] [] (by kernel_rfl) (by kernel_rfl) hS0 (partsI_yield ?_)
  simp only [sgLHSuREnc]
  go_wp2_with fail
  refine ⟨rfl, _, .pointer (some ⟨w.heap.size, 2, none⟩), rfl, Or.inl ⟨by rfl, fun W hW => by go_simp⟩, partsI_yield ?_⟩
  simp only [Act.put, sgPHSuREnc]
  simp only [sgLHSuREnc]
  go_wp2_with fail
  refine ⟨rfl, _, .pointer (some ⟨w.heap.size, 2, none⟩), rfl, Or.inl ⟨by rfl, fun W hW => by go_simp⟩, partsI_yield ?_⟩
  simp only [Act.put, sgPHSuREnc]
  simp only [sgLHSuREnc]
  go_wp2_with fail
  refine ⟨rfl, _, .int .i64 x.th, rfl, Or.inl ⟨by rfl, fun W hW => by have hc := sup_c2 hW.out.1; go_simp⟩, partsI_yield ?_⟩
  simp only [Act.put, sgPHSuREnc]
  simp only [sgLHSuREnc]
  go_wp2_with fail
  refine ⟨rfl, _, .int .u64 x.th, rfl, Or.inl ⟨by rfl, fun W hW => by go_simp⟩, partsI_yield ?_⟩
  simp only [Act.put, sgPHSuREnc]
  simp only [sgLHSuREnc]
  go_wp2_with fail
  refine ⟨rfl, _, .pointer (some ⟨w.heap.size, 36, none⟩), rfl, Or.inl ⟨by rfl, fun W hW => by go_simp⟩, partsI_yield ?_⟩
  simp only [Act.put, sgPHSuREnc]
  simp only [sgLHSuREnc]
  go_wp2_with fail
  refine ⟨rfl, _, .int .i64 x.n, rfl, Or.inl ⟨by rfl, fun W hW => by have hc := sup_c36 hW.out.1; go_simp⟩, partsI_yield ?_⟩
  simp only [Act.put, sgPHSuREnc]
  simp only [sgLHSuREnc]
  go_wp2_with fail
  refine ⟨rfl, _, .int .u64 x.n, rfl, Or.inl ⟨by rfl, fun W hW => by go_simp⟩, partsI_yield ?_⟩
  simp only [Act.put, sgPHSuREnc]
  simp only [sgLHSuREnc]
  go_wp2_with fail
  refine ⟨rfl, _, .pointer (some ⟨w.heap.size, 2, none⟩), rfl, Or.inl ⟨by rfl, fun W hW => by go_simp⟩, partsI_yield ?_⟩
  simp only [Act.put, sgPHSuREnc]
  simp only [sgLHSuREnc]
  go_wp2_with fail
  refine ⟨rfl, _, .pointer (some ⟨w.heap.size, 3, none⟩), rfl, Or.inl ⟨by rfl, fun W hW => by go_simp⟩, partsI_yield ?_⟩
  simp only [Act.put, sgPHSuREnc]
  simp only [sgLHSuREnc]
  go_wp2_with fail
  refine ⟨rfl, _, .pointer (some ⟨w.heap.size, 3, none⟩), rfl, Or.inl ⟨by rfl, fun W hW => by go_simp⟩, partsI_yield ?_⟩
  simp only [Act.put, sgPHSuREnc]
  simp only [sgLHSuREnc]
  go_wp2_with fail
  refine ⟨rfl, _, .int .u32 ((x.tr.1 : Nat) : Int), rfl, Or.inl ⟨by rfl, fun W hW => by have hc := sup_c3 hW.out.1; go_simp⟩, partsI_yield ?_⟩
  simp only [Act.put, sgPHSuREnc]
  simp only [sgLHSuREnc]
  go_wp2_with fail
  refine ⟨rfl, _, .int .u64 ((x.tr.1 : Nat) : Int), rfl, Or.inl ⟨by rfl, fun W hW => by go_simp⟩, partsI_yield ?_⟩
  simp only [Act.put, sgPHSuREnc]
  simp only [sgLHSuREnc]
  go_wp2_with fail
  refine ⟨rfl, _, .pointer (some ⟨w.heap.size, 2, none⟩), rfl, Or.inl ⟨by rfl, fun W hW => by go_simp⟩, partsI_yield ?_⟩
  simp only [Act.put, sgPHSuREnc]
  simp only [sgLHSuREnc]
  go_wp2_with fail
  refine ⟨rfl, _, .pointer (some ⟨w.heap.size, 3, none⟩), rfl, Or.inl ⟨by rfl, fun W hW => by go_simp⟩, partsI_yield ?_⟩
  simp only [Act.put, sgPHSuREnc]
  simp only [sgLHSuREnc]
  go_wp2_with fail
  refine ⟨rfl, _, .pointer (some ⟨w.heap.size, 4, none⟩), rfl, Or.inl ⟨by rfl, fun W hW => by go_simp⟩, partsI_yield ?_⟩
  simp only [Act.put, sgPHSuREnc]
  simp only [sgLHSuREnc]
  go_wp2_with fail
  refine ⟨rfl, _, .agg (va 32 (iv .u8 (dF x.tr.2))), rfl, yieldsIf_load_mid (by rfl) 38 _ (by rfl) w.heap.size 4 (by rfl) _ _ (fun W hW => su_rTS hW.out.1) Tryz.underlying38 rfl (sz32u.trans (by simp)), partsI_force ?_⟩
  simp only [Act.put, sgPHSuREnc]
  simp only [sgLHSuREnc]
  go_wp2_with fail
  refine (Nth.out _).mono ?_
  rintro e y1 ⟨rfl, hy1⟩
  have hS1 : Hid (Blk y1 w.heap.size 74 (suC x) ∧ Below w.heap.size w y1) := ⟨hS0.out.1.below hy1 hS0.out.1.lt, hS0.out.2.trans (hy1.mono hS0.out.2.size)⟩
  clear hy1 hS0
  go_wp2_with fail
  refine ⟨rfl, hS1, partsI_force ?_⟩
  simp only [sgLHSuREnc]
  go_wp2_with fail
  refine (Nn.out _).mono ?_
  rintro e y2 ⟨rfl, hy2⟩
  have hS2 : Hid (Blk y2 w.heap.size 74 (suC x) ∧ Below w.heap.size w y2) := ⟨hS1.out.1.below hy2 hS1.out.1.lt, hS1.out.2.trans (hy2.mono hS1.out.2.size)⟩
  clear hy2 hS1
  go_wp2_with fail
  refine ⟨rfl, hS2, partsI_yield ?_⟩
  simp only [sgLHSuREnc]
  go_wp2_with fail
  refine ⟨rfl, _, .string (Tth ++ Tn), rfl, Or.inl ⟨by rfl, fun W hW => by go_simp⟩, partsI_force ?_⟩
  simp only [Act.put, sgPHSuREnc]
  simp only [sgLHSuREnc]
  go_wp2_with fail
  refine (Nta.out _).mono ?_
  rintro e y3 ⟨rfl, hy3⟩
  have hS3 : Hid (Blk y3 w.heap.size 74 (suC x) ∧ Below w.heap.size w y3) := ⟨hS2.out.1.below hy3 hS2.out.1.lt, hS2.out.2.trans (hy3.mono hS2.out.2.size)⟩
  clear hy3 hS2
  go_wp2_with fail
  refine ⟨rfl, hS3, partsI_yield ?_⟩
  simp only [sgLHSuREnc]
  go_wp2_with fail
  refine ⟨rfl, _, .string (Tth ++ Tn ++ Tta), rfl, Or.inl ⟨by rfl, fun W hW => by go_simp⟩, partsI_force ?_⟩
  simp only [Act.put, sgPHSuREnc]
  simp only [sgLHSuREnc]
  go_wp2_with fail
  refine (Nts.out _).mono ?_
  rintro e y4 ⟨rfl, hy4⟩
  have hS4 : Hid (Blk y4 w.heap.size 74 (suC x) ∧ Below w.heap.size w y4) := ⟨hS3.out.1.below hy4 hS3.out.1.lt, hS3.out.2.trans (hy4.mono hS3.out.2.size)⟩
  clear hy4 hS3
  go_wp2_with fail
  refine ⟨rfl, hS4, partsI_force ?_⟩
  simp only [sgLHSuREnc]
  go_wp2_with fail
  refine ⟨rfl, hS4, partsI_force ?_⟩
  simp only [sgLHSuREnc]
  go_wp2_with fail
  refine ⟨rfl, hS4, partsI_last ?_⟩
  simp only [sgLHSuREnc]
  go_wp2_with fail
  refine ⟨rfl, ?_⟩
  go_wp2_with fail
  rw [J2.out]
  have q68 := Z 68
  have hS0 : Hid (Blk y4.drew w.heap.size 74 (suC x) ∧ Below w.heap.size w y4.drew) := ⟨hS4.out.1.drew, hS4.out.2.drew⟩
  clear hS4
  generalize strN B 68 = B68 at *
  refine wp_region_partsS (fun U => Hid (Blk U w.heap.size 74 (suC x) ∧ Below w.heap.size w U)) [([0], 1, true), ([], 2, true), ([], 3, true), ([], 4, true), ([], 6, true), ([], 7, true), ([], 8, true), ([], 9, true), ([], 10, true), ([], 13, true), ([], 14, true), ([], 15, true), ([], 16, true), ([], 19, true), ([], 20, true), ([], 21, true), ([], 5, false), ([], 11, false), ([], 12, true), ([], 17, false), ([], 18, true), ([], 22, false), ([], 23, false), ([], 24, false)] [25] [] (by kernel_rfl) (by kernel_rfl) hS0 (partsI_yield ?_)
  simp only [sgLHSuREnc]
  go_wp2_with fail
  refine ⟨rfl, _, .pointer (some ⟨w.heap.size, 37, none⟩), rfl, Or.inl ⟨by rfl, fun W hW => by go_simp⟩, partsI_yield ?_⟩
  simp only [Act.put, sgPHSuREnc]
  simp only [sgLHSuREnc]
  go_wp2_with fail
  refine ⟨rfl, _, .pointer (some ⟨w.heap.size, 37, none⟩), rfl, Or.inl ⟨by rfl, fun W hW => by go_simp⟩, partsI_yield ?_⟩
  simp only [Act.put, sgPHSuREnc]
  simp only [sgLHSuREnc]
  go_wp2_with fail
  refine ⟨rfl, _, .int .i64 x.mh, rfl, Or.inl ⟨by rfl, fun W hW => by have hc := sup_c37 hW.out.1; go_simp⟩, partsI_yield ?_⟩
  simp only [Act.put, sgPHSuREnc]
  simp only [sgLHSuREnc]
  go_wp2_with fail
  refine ⟨rfl, _, .int .u64 x.mh, rfl, Or.inl ⟨by rfl, fun W hW => by go_simp⟩, partsI_yield ?_⟩
  simp only [Act.put, sgPHSuREnc]
  simp only [sgLHSuREnc]
  go_wp2_with fail
  refine ⟨rfl, _, .pointer (some ⟨w.heap.size, 37, none⟩), rfl, Or.inl ⟨by rfl, fun W hW => by go_simp⟩, partsI_yield ?_⟩
  simp only [Act.put, sgPHSuREnc]
  simp only [sgLHSuREnc]
  go_wp2_with fail
  refine ⟨rfl, _, .pointer (some ⟨w.heap.size, 38, none⟩), rfl, Or.inl ⟨by rfl, fun W hW => by go_simp⟩, partsI_yield ?_⟩
  simp only [Act.put, sgPHSuREnc]
  simp only [sgLHSuREnc]
  go_wp2_with fail
  refine ⟨rfl, _, .pointer (some ⟨w.heap.size, 38, none⟩), rfl, Or.inl ⟨by rfl, fun W hW => by go_simp⟩, partsI_yield ?_⟩
  simp only [Act.put, sgPHSuREnc]
  simp only [sgLHSuREnc]
  go_wp2_with fail
  refine ⟨rfl, _, .int .u32 ((x.mr.1 : Nat) : Int), rfl, Or.inl ⟨by rfl, fun W hW => by have hc := sup_c38 hW.out.1; go_simp⟩, partsI_yield ?_⟩
  simp only [Act.put, sgPHSuREnc]
  simp only [sgLHSuREnc]
  go_wp2_with fail
  refine ⟨rfl, _, .int .u64 ((x.mr.1 : Nat) : Int), rfl, Or.inl ⟨by rfl, fun W hW => by go_simp⟩, partsI_yield ?_⟩
  simp only [Act.put, sgPHSuREnc]
  simp only [sgLHSuREnc]
  go_wp2_with fail
  refine ⟨rfl, _, .pointer (some ⟨w.heap.size, 37, none⟩), rfl, Or.inl ⟨by rfl, fun W hW => by go_simp⟩, partsI_yield ?_⟩
  simp only [Act.put, sgPHSuREnc]
  simp only [sgLHSuREnc]
  go_wp2_with fail
  refine ⟨rfl, _, .pointer (some ⟨w.heap.size, 38, none⟩), rfl, Or.inl ⟨by rfl, fun W hW => by go_simp⟩, partsI_yield ?_⟩
  simp only [Act.put, sgPHSuREnc]
  simp only [sgLHSuREnc]
  go_wp2_with fail
  refine ⟨rfl, _, .pointer (some ⟨w.heap.size, 39, none⟩), rfl, Or.inl ⟨by rfl, fun W hW => by go_simp⟩, partsI_yield ?_⟩
  simp only [Act.put, sgPHSuREnc]
  simp only [sgLHSuREnc]
  go_wp2_with fail
  refine ⟨rfl, _, .agg (va 32 (iv .u8 (dF x.mr.2))), rfl, yieldsIf_load_mid (by rfl) 38 _ (by rfl) w.heap.size 39 (by rfl) _ _ (fun W hW => su_rMS hW.out.1) Tryz.underlying38 rfl (sz32u.trans (by simp)), partsI_yield ?_⟩
  simp only [Act.put, sgPHSuREnc]
  simp only [sgLHSuREnc]
  go_wp2_with fail
  refine ⟨rfl, _, .pointer (some ⟨w.heap.size, 71, none⟩), rfl, Or.inl ⟨by rfl, fun W hW => by go_simp⟩, partsI_yield ?_⟩
  simp only [Act.put, sgPHSuREnc]
  simp only [sgLHSuREnc]
  go_wp2_with fail
  refine ⟨rfl, _, .int .i64 x.u, rfl, Or.inl ⟨by rfl, fun W hW => by have hc := sup_c71 hW.out.1; go_simp⟩, partsI_yield ?_⟩
  simp only [Act.put, sgPHSuREnc]
  simp only [sgLHSuREnc]
  go_wp2_with fail
  refine ⟨rfl, _, .int .u64 x.u, rfl, Or.inl ⟨by rfl, fun W hW => by go_simp⟩, partsI_force ?_⟩
  simp only [Act.put, sgPHSuREnc]
  simp only [sgLHSuREnc]
  go_wp2_with fail
  refine (Nmh.out _).mono ?_
  rintro e y1 ⟨rfl, hy1⟩
  have hS1 : Hid (Blk y1 w.heap.size 74 (suC x) ∧ Below w.heap.size w y1) := ⟨hS0.out.1.below hy1 hS0.out.1.lt, hS0.out.2.trans (hy1.mono hS0.out.2.size)⟩
  clear hy1 hS0
  go_wp2_with fail
  refine ⟨rfl, hS1, partsI_force ?_⟩
  simp only [sgLHSuREnc]
  go_wp2_with fail
  refine (Nma.out _).mono ?_
  rintro e y2 ⟨rfl, hy2⟩
  have hS2 : Hid (Blk y2 w.heap.size 74 (suC x) ∧ Below w.heap.size w y2) := ⟨hS1.out.1.below hy2 hS1.out.1.lt, hS1.out.2.trans (hy2.mono hS1.out.2.size)⟩
  clear hy2 hS1
  go_wp2_with fail
  refine ⟨rfl, hS2, partsI_yield ?_⟩
  simp only [sgLHSuREnc]
  go_wp2_with fail
  refine ⟨rfl, _, .string (Tmh ++ Tma), rfl, Or.inl ⟨by rfl, fun W hW => by go_simp⟩, partsI_force ?_⟩
  simp only [Act.put, sgPHSuREnc]
  simp only [sgLHSuREnc]
  go_wp2_with fail
  refine (Nms.out _).mono ?_
  rintro e y3 ⟨rfl, hy3⟩
  have hS3 : Hid (Blk y3 w.heap.size 74 (suC x) ∧ Below w.heap.size w y3) := ⟨hS2.out.1.below hy3 hS2.out.1.lt, hS2.out.2.trans (hy3.mono hS2.out.2.size)⟩
  clear hy3 hS2
  go_wp2_with fail
  refine ⟨rfl, hS3, partsI_yield ?_⟩
  simp only [sgLHSuREnc]
  go_wp2_with fail
  refine ⟨rfl, _, .string (Tmh ++ Tma ++ Tms), rfl, Or.inl ⟨by rfl, fun W hW => by go_simp⟩, partsI_force ?_⟩
  simp only [Act.put, sgPHSuREnc]
  simp only [sgLHSuREnc]
  go_wp2_with fail
  refine (Nu.out _).mono ?_
  rintro e y4 ⟨rfl, hy4⟩
  have hS4 : Hid (Blk y4 w.heap.size 74 (suC x) ∧ Below w.heap.size w y4) := ⟨hS3.out.1.below hy4 hS3.out.1.lt, hS3.out.2.trans (hy4.mono hS3.out.2.size)⟩
  clear hy4 hS3
  go_wp2_with fail
  refine ⟨rfl, hS4, partsI_force ?_⟩
  simp only [sgLHSuREnc]
  go_wp2_with fail
  refine ⟨rfl, hS4, partsI_force ?_⟩
  simp only [sgLHSuREnc]
  go_wp2_with fail
  refine ⟨rfl, hS4, partsI_last ?_⟩
  simp only [sgLHSuREnc]
  go_wp2_with fail
  refine ⟨rfl, ?_⟩
  go_wp2_with fail
  rw [J3.out]
  go_loopw [4] (fun s wr => Hid (∃ k : Nat, 112 ≤ k ∧ k ≤ 256 ∧ s = .string (strN B k) ∧ Below w.heap.size w wr)) (fun s _ => 256 - (match s with | .string t => t.size | _ => 0))
  case atStart => exact ⟨112, by omega, by omega, rfl, hS4.out.2⟩
  case round =>
    obtain ⟨k, h1, h2, rfl, hb⟩ := Hid.out hrel
    clear hrel hS4
    have qk := Z k
    by_cases hlt : k < 256
    · have HJ : Hid (strN B k ++ Te = strN B (k + 1)) := J4.out k h1
      have HZ : Hid ((strN B (k + 1)).size = k + 1) := Z (k + 1)
      have k1 : (k : Int) < 256 := by omega
      go_wp2_with fail
      refine (Ne.out _).mono ?_
      rintro e y ⟨rfl, hy⟩
      have hb2 : Below w.heap.size w y := hb.trans (hy.mono hb.size)
      go_wp2_with fail
      go_roundw
      case rel => exact ⟨k + 1, by omega, by omega, by rw [HJ.out], hb2⟩
      case measure =>
        rw [HJ.out]
        simp only [HZ.out, qk]
        omega
    · obtain rfl : k = 256 := by omega
      go_wp2_with fail
      go_ret2
      exact ⟨rfl, hb⟩
end Go.Proofs.YtppagdmlfgialaaGreatDoor
