/- The statement SlotOlder, called with whatever digests and counters: it returns true. -/
import Derived.Test.YtlmbokfgogkbmaaHSlOlder
import Derived.Test.YtlmbokfgogkbmaaHSlGoesLaw
import Derived.Handy

namespace Go.Proofs.Ytlmbokfgogkbmaa
open Go Go.RowKit
set_option linter.unusedSimpArgs false
set_option linter.unusedVariables false

section
variable {B g N k lg r m : Nat} {F : Nat → Nat} {q : QD} {C : List (Int × Bool)} {v : Value} {L : List Sl}
theorem RD.same {w w' : World} (h : RD w B g N F k lg q C r m v L) (hk : ∀ b, rdfoot g N q r m v b ∨ q.cu.ownBlock = some b → w'.heap[b]? = w.heap[b]?) : RD w' B g N F k lg q C r m v L :=
  ⟨h.d.kept fun z hz => hk z (.inl (.inl hz)), own_block h.c fun z hz => hk z (.inr hz), h.reg.kept fun z hz => hk z (.inl (.inr hz)), h.ap⟩
end
theorem kyields_mid {P : Program} {ops : Array Oper} {S : World → Prop} {op : Oper} {a : Act} (hw : Region.wanted op (yielded ops a.tmps) = true) (ty : TypeId) (x : Operand) (ho : op.op = .load ty x)
    (b o n : Nat) (f : Nat → Value) (hx : a.eval x = .pointer (some ⟨b, o, none⟩)) (d : TypeDesc) (hS : ∀ w, S w → w.rangeAt b o ((List.range n).map f))
    (hu : P.underlying ty = some d) (hd : d.isRow = true) (hi : (P.info? ty).map (·.size) = some n) : YieldsIf P ops S op (.agg (va n f)) a :=
  yieldsIf_load_mid hw ty x ho b o hx _ d hS hu hd (hi.trans (by simp))
theorem wpList_load_slot {ops : Array Oper} {rest : List Oper} {op : Oper} {a : Act} {w : World} {Q : Exit → Act → World → Prop} (hgd : op.guard = none) (x : Operand) (ho : op.op = .load 50 x)
    (b o : Nat) (s : Sl) (hx : a.eval x = .pointer (some ⟨b, o, none⟩)) (hc : w.rangeAt b o ((List.range 34).map (slF s)))
    (h : wpList Try.prog ops Q rest (a.put op.dst (.agg (slC s))) w) : wpList Try.prog ops Q (op :: rest) a w :=
  wpList_load_blk hgd 50 x ho b o 34 (slF s) hx _ hc Try.underlying50 rfl sizeSlot h
theorem Blk.cell0 {w : World} {b t : Nat} {s : Sl} (h : Blk w b t (slC s)) {j : Nat} (hj : s.1 = j + 1) : w.cell? ⟨b, 0, none⟩ = some (.int .u64 ((j : Int) + 1)) := by
  rw [h.cell]
  refine (va_at (slF s) (by decide)).trans ?_
  show some (Value.int .u64 ((s.1 : Nat) : Int)) = _
  rw [hj]
  rfl
theorem sub_in (L : List Sl) (a t j : Nat) (s : Sl) (hs : L[j]? = some s) (h1 : a ≤ j) (h2 : j < t) : subL L a (min t (j + 1)) = subL L a (min t j) ++ [s] := by
  unfold subL
  rw [show min t (j + 1) - a = (j - a) + 1 by omega, show min t j - a = j - a by omega]
  rw [List.take_add_one, List.getElem?_drop, show a + (j - a) = j by omega, hs]
  rfl
theorem sub_out (L : List Sl) (a t j : Nat) (h : j < a ∨ t ≤ j) : subL L a (min t (j + 1)) = subL L a (min t j) := by
  unfold subL
  rw [show min t (j + 1) - a = min t j - a by omega]
set_option maxRecDepth 100000 in
set_option maxHeartbeats 64000000 in
theorem slotOlderLaw (a0 : Option Addr) (n c0 : Nat) (D : Nat → Vector Nat 32) (f t : Nat) (hf : f < 18446744073709551616) (ht : t < 18446744073709551616) (w : World) (hI : IsSums w a0 n D) :
    Calls Try.prog 7 #[.slice a0 n c0, .int .u64 (f : Int), .int .u64 (t : Int)] w fun e w' => e = .returned (.bool true) ∧ Below w.heap.size w w' := by
  obtain ⟨i0, hi, hz0, hz1, hz2⟩ := info_parts infoSlot
  have hz := zero_slot
  have hzs := zero_sm
  have HI : Hid (IsSums w a0 n D) := hI
  have hN : Hid (∀ w : World, Calls Try.prog 8 #[.int .i64 16] w fun e w' => ∃ g q, e = .returned (.tuple #[.pointer (some ⟨g, 0, none⟩), .int .i64 0]) ∧ DiskQ w' w.heap.size g 16 (fun _ => 0) 0 0 q ∧ Quiet q 0 ∧ Below w.heap.size w w') := fun w => diskNew_any 16 (by decide) (by decide) w
  have hR : Hid (∀ (p : Option Addr) (w : World), Calls Try.prog 10 #[.pointer p] w fun e w' => ∃ r m, e = .returned (.pointer (some ⟨r, 0, none⟩)) ∧ RegAt w' w.heap.size r m p (.slice none 0 0) [] ∧ Below w.heap.size w w') := newReg_any
  have hAw : Hid (∀ w : World, Calls Try.prog 9 #[] w fun e w' => e = .returned (.bool true) ∧ Below w.heap.size w w') := awake6_any
  clear hI
  by_cases hbig : 2000 < n
  · have d1 : (2000 : Int) < (n : Int) := by omega
    go_enter Try.func7, Try.ntmps7
    go_wp2_with fail
    refine (hN.out _).mono ?_
    rintro e w1 ⟨g, q0, rfl, hd1, hq1, hb1⟩
    clear hd1 hq1
    go_wp2_with fail
    refine (hAw.out _).mono ?_
    rintro e w2 ⟨rfl, hb2⟩
    have hb2' : Below w.heap.size w w2 := hb1.trans (hb2.mono hb1.size)
    clear hb2 hb1
    go_wp2_with fail
    refine (hAw.out _).mono ?_
    rintro e w3 ⟨rfl, hb3⟩
    have hb3' : Below w.heap.size w w3 := hb2'.trans (hb3.mono hb2'.size)
    go_wp2_with fail
    go_ret
    exact ⟨rfl, hb3'⟩
  · have d1 : ¬ (2000 : Int) < (n : Int) := by omega
    have hn : n ≤ 2000 := by omega
    clear hbig
    go_enter Try.func7, Try.ntmps7
    go_wp2_with fail
    refine (hN.out _).mono ?_
    rintro e w1 ⟨g, q0, rfl, hd1, hq1, hb1⟩
    have HD1 : Hid (DiskQ w1 w.heap.size g 16 (fun _ => 0) 0 0 q0) := hd1
    have HQ1 : Hid (Quiet q0 0) := hq1
    clear hd1 hq1
    go_wp2_with fail
    refine (hAw.out _).mono ?_
    rintro e w2 ⟨rfl, hb2⟩
    have HD2 : Hid (DiskQ w2 w.heap.size g 16 (fun _ => 0) 0 0 q0) := HD1.out.below hb2
    have hb2' : Below w.heap.size w w2 := hb1.trans (hb2.mono hb1.size)
    clear hb2 hb1 HD1
    go_wp2_with fail
    refine (hR.out _ _).mono ?_
    rintro e w3 ⟨r, m, rfl, hr3, hb3⟩
    have HRD3 : Hid (RD w3 w.heap.size g 16 (fun _ => 0) 0 0 q0 [] r m (.slice none 0 0) []) := RD.new HD2.out HQ1.out hb2'.size hr3 hb3
    have hb3' : Below w.heap.size w w3 := hb2'.trans (hb3.mono hb2'.size)
    clear hr3 hb3 hb2' HD2
    have HRD4 : Hid (RD (w3.alloc (.cells #[] 50)) w.heap.size g 16 (fun _ => 0) 0 0 q0 [] r m (.slice none 0 0) []) := HRD3.out.below (below_new1 _ _)
    have HO4 : Hid ((w3.alloc (.cells #[] 50)).ownsRow w.heap.size 50 34 (.slice (some ⟨w3.heap.size, 0, none⟩) 0 0) 0 (slL [])) := kown_empty (Blk.new _ _ _) hb3'.size
    have HA4 : Hid (∀ b, (Value.slice (some ⟨w3.heap.size, 0, none⟩) 0 0).ownBlock = some b → ¬ rdfoot g 16 q0 r m (.slice none 0 0) b) := fun b hb => by
      have e : w3.heap.size = b := by simpa [Value.ownBlock] using hb
      exact HRD3.out.new_ne (by omega)
    have hb4 : Below w.heap.size w (w3.alloc (.cells #[] 50)) := hb3'.alloc hb3'.size _
    clear HRD3 hb3'
    go_wp2_with fail
    generalize (w3.alloc (.cells #[] 50)) = w4 at *
    generalize w3.heap.size = bl0 at *
    go_loopw [11, 56] (fun vl t wx => ∃ i : Nat, i ≤ n ∧ t = .int .i64 (i : Int) ∧ ∃ (L : List Sl) (q : QD) (v : Value) (lg : Nat) (al : Option Addr) (cl : Nat), vl = .slice al i cl ∧ RD wx w.heap.size g 16 (fun _ => 0) 0 lg q [] r m v L ∧ QuietC q.cu false q i ∧ Cnt L ∧ (∀ s ∈ L, s.2.1 = 5) ∧ (L.length = i ∧ lg ≤ i) ∧ wx.ownsRow w.heap.size 50 34 vl i (slL L) ∧ (∀ b, vl.ownBlock = some b → ¬ rdfoot g 16 q r m v b) ∧ Below w.heap.size w wx) (fun _ t _ => n - (intOf t).toNat)
    case atStart => exact ⟨0, Nat.zero_le _, rfl, [], q0, _, 0, _, _, rfl, HRD4.out, by rw [HQ1.out.cu]; exact HQ1.out, Cnt.nil, (fun s hs => by cases hs), ⟨rfl, Nat.le_refl _⟩, HO4.out, HA4.out, hb4⟩
    case round =>
      clear HRD4 HQ1 HO4 HA4 hb4
      obtain ⟨i, hin, rfl, L, q, v, lg, al, cl, rfl, hrd, hq, hcn, h5, ⟨hLi, hlg⟩, ho, hap, hb⟩ := hrel
      have HRD : Hid (RD wr w.heap.size g 16 (fun _ => 0) 0 lg q [] r m v L) := hrd
      have HQ : Hid (QuietC q.cu false q i) := hq
      have HCN : Hid (Cnt L) := hcn
      have H5 : Hid (∀ s ∈ L, s.2.1 = 5) := h5
      have HLI : Hid (L.length = i) := hLi
      have HO : Hid (wr.ownsRow w.heap.size 50 34 (.slice al i cl) i (slL L)) := ho
      have HAP : Hid (∀ b, (Value.slice al i cl).ownBlock = some b → ¬ rdfoot g 16 q r m v b) := hap
      clear hrd hq hcn h5 hLi ho hap
      by_cases hlt : i < n
      · obtain ⟨b, o, ha0, hbw, hrg, hby⟩ := HI.out i hlt
        subst ha0
        have HRG : Hid (wr.rangeAt b (o + i * 32) ((List.range 32).map (iv .u8 (dF (D i))))) := sums_range hrg hbw hb
        clear hrg hby
        have i0' : (0 : Int) ≤ (i : Int) := by omega
        have i1 : (i : Int) < (n : Int) := by omega
        obtain ⟨nx, hnx⟩ : ∃ nx : Sl, nx = (i + 1, 5, D i) := ⟨_, rfl⟩
        have HNX : Hid (nx = (i + 1, 5, D i)) := hnx
        have hbt1 : Hid (Try.prog.built 48 [(0, .int .u32 5), (1, .agg (va 32 (iv .u8 (dF (D i)))))] = some (va 33 (rfF 5 (D i)))) := built_refD 5 (D i)
        have hbt2 : Hid (Try.prog.built 50 [(0, .int .u64 ((i : Int) + 1)), (1, .agg (va 33 (rfF 5 (D i))))] = some (slC nx)) := by
          show _ = _
          have := built_slot (i + 1) 5 (D i)
          rw [hnx]
          rw [show (((i + 1 : Nat)) : Int) = (i : Int) + 1 by omega] at this
          exact this
        clear hnx
        have x0 : Blk (wr.alloc (.cells zsC 44)) wr.heap.size 44 zsC := Blk.new _ _ _
        have xA : Blk ((wr.alloc (.cells zsC 44)).setRow wr.heap.size (va 32 (iv .u8 (dF (D i))))) wr.heap.size 44 (va 32 (iv .u8 (dF (D i)))) := x0.set _
        have hbA : Below wr.heap.size wr ((wr.alloc (.cells zsC 44)).setRow wr.heap.size (va 32 (iv .u8 (dF (D i))))) := below_setRow (below_new1 _ _) (Nat.le_refl _) _
        have szA : ((wr.alloc (.cells zsC 44)).setRow wr.heap.size (va 32 (iv .u8 (dF (D i))))).heap.size = wr.heap.size + 1 := by rw [setRow_size]; simp
        have n0 : Blk (((wr.alloc (.cells zsC 44)).setRow wr.heap.size (va 32 (iv .u8 (dF (D i))))).alloc (.cells (slC sl0) 50)) (wr.heap.size + 1) 50 (slC sl0) := by
          have := Blk.new ((wr.alloc (.cells zsC 44)).setRow wr.heap.size (va 32 (iv .u8 (dF (D i))))) 50 (slC sl0)
          rw [szA] at this
          exact this
        have nB : Blk ((((wr.alloc (.cells zsC 44)).setRow wr.heap.size (va 32 (iv .u8 (dF (D i))))).alloc (.cells (slC sl0) 50)).setRow (wr.heap.size + 1) (slC nx)) (wr.heap.size + 1) 50 (slC nx) := n0.set _
        have hbB : Below wr.heap.size wr ((((wr.alloc (.cells zsC 44)).setRow wr.heap.size (va 32 (iv .u8 (dF (D i))))).alloc (.cells (slC sl0) 50)).setRow (wr.heap.size + 1) (slC nx)) := below_setRow (hbA.alloc (by omega) _) (by omega) _
        have HRB : Hid (RD ((((wr.alloc (.cells zsC 44)).setRow wr.heap.size (va 32 (iv .u8 (dF (D i))))).alloc (.cells (slC sl0) 50)).setRow (wr.heap.size + 1) (slC nx)) w.heap.size g 16 (fun _ => 0) 0 lg q [] r m v L) := HRD.out.below hbB
        have HOB : Hid (((((wr.alloc (.cells zsC 44)).setRow wr.heap.size (va 32 (iv .u8 (dF (D i))))).alloc (.cells (slC sl0) 50)).setRow (wr.heap.size + 1) (slC nx)).ownsRow w.heap.size 50 34 (.slice al i cl) i (slL L)) := kown_below HO.out hbB
        have HNB : Hid (¬ rdfoot g 16 q r m v (wr.heap.size + 1)) := HRD.out.new_ne (by omega)
        have HNV : Hid ((Value.slice al i cl).ownBlock ≠ some (wr.heap.size + 1)) := fun e => by
          have := (HO.out.lt _ e).2
          omega
        have hbW : Below w.heap.size w ((((wr.alloc (.cells zsC 44)).setRow wr.heap.size (va 32 (iv .u8 (dF (D i))))).alloc (.cells (slC sl0) 50)).setRow (wr.heap.size + 1) (slC nx)) := hb.trans (hbB.mono hb.size)
        clear hbA hbB szA
        go_wp2_with (first
          | (refine wpList_load_blk (by rfl) 44 _ (by rfl) (b) (o + i * 32) 32 (iv .u8 (dF (D i))) (by rfl) _ (by exact HRG.out) Try.underlying44 rfl sizeSm ?_; simp only [Act.put, List.setIfInBounds_toArray, List.set_cons_zero, List.set_cons_succ])
          | (refine wpList_store_row (by rfl) 44 _ _ (by rfl) (wr.heap.size) (va 32 (iv .u8 (dF (D i)))) (by rfl) (by rfl) 44 (zsC) (by exact x0) (sizeSm.trans (by rw [va_size])) (by rw [zsC_size, va_size]) (iv_one _ _ _) ?_; simp only [Act.put, List.setIfInBounds_toArray, List.set_cons_zero, List.set_cons_succ])
          | (refine wpList_load_rowg (by rfl) 44 _ (by rfl) (wr.heap.size) (by rfl) 44 (va 32 (iv .u8 (dF (D i)))) (0, 0) _ (by exact xA) Try.underlying44 (by rfl) (sizeSm.trans (by rw [va_size])) ?_; simp only [Act.put, List.setIfInBounds_toArray, List.set_cons_zero, List.set_cons_succ])
          | (refine wpList_build2 (by rfl) 48 _ _ (by rfl) (.int .u32 5) (.agg (va 32 (iv .u8 (dF (D i))))) (by rfl) (by rfl) (va 33 (rfF 5 (D i))) (by exact hbt1.out) ?_; simp only [Act.put, List.setIfInBounds_toArray, List.set_cons_zero, List.set_cons_succ])
          | (refine wpList_build2 (by rfl) 50 _ _ (by rfl) (.int .u64 ((i : Int) + 1)) (.agg (va 33 (rfF 5 (D i)))) (by rfl) (by rfl) (slC nx) (by exact hbt2.out) ?_; simp only [Act.put, List.setIfInBounds_toArray, List.set_cons_zero, List.set_cons_succ])
          | (refine wpList_store_row (by rfl) 50 _ _ (by rfl) (wr.heap.size + 1) (slC nx) (by rfl) (by rfl) 50 (slC sl0) (by exact n0) (sizeSlot.trans (by rw [slC_size])) (by simp only [slC_size]) (slC_all _) ?_; simp only [Act.put, List.setIfInBounds_toArray, List.set_cons_zero, List.set_cons_succ])
          | (refine wpList_load_rowg (by rfl) 50 _ (by rfl) (wr.heap.size + 1) (by rfl) 50 (slC nx) (0, 0) _ (by exact nB) Try.underlying50 (by rfl) (sizeSlot.trans (by rw [slC_size])) ?_; simp only [Act.put, List.setIfInBounds_toArray, List.set_cons_zero, List.set_cons_succ])
          | fail)
        generalize ((((wr.alloc (.cells zsC 44)).setRow wr.heap.size (va 32 (iv .u8 (dF (D i))))).alloc (.cells (slC sl0) 50)).setRow (wr.heap.size + 1) (slC nx)) = wb at *
        clear x0 xA n0 HRG hbt1 hbt2 hb HRD HO
        have HHT : Hid (nx.1 < 18446744073709551616 ∧ nx.2.1 ≠ 0 ∧ nx.1 = (lastS L).1 + 1 ∧ nx ∉ L) := by
          have h1 := HLI.out
          refine ⟨?_, ?_, ?_, HCN.out.fresh nx ?_⟩
          · rw [HNX.out]
            show i + 1 < _
            omega
          · rw [HNX.out]
            show (5 : Nat) ≠ 0
            decide
          · rw [HNX.out, HCN.out.last, h1]
          · rw [HNX.out]
            show L.length < i + 1
            omega
        refine (rdWrite_go (by decide) (mm := i) HQ.out (by omega) (by omega) (by have := HLI.out; omega) nx HHT.out.1 HHT.out.2.1 HHT.out.2.2.1 HHT.out.2.2.2 wb hbW.size HRB.out).mono ?_
        rw [ahB_nil, bhB_nil]
        rintro e wc ⟨rfl, q1, lg1, v1, h1, hq1, hev1, hlg1, hm1⟩
        have HRC : Hid (RD wc w.heap.size g 16 (fun _ => 0) 0 lg1 q1 [] r m v1 (L ++ [nx])) := h1
        have HQ1 : Hid (QuietC q1.cu false q1 (i + 1)) := by
          have := hq1
          rw [← hq1.cu] at this
          exact this
        obtain ⟨nC, HNC0⟩ := hm1.blk nB HNB.out
        have HOC : Hid (wc.ownsRow w.heap.size 50 34 (.slice al i cl) i (slL L)) := own_block HOB.out fun z hz => hm1.1.block z (HOB.out.lt z hz).2 (HAP.out z hz)
        have HAC : Hid (∀ b, (Value.slice al i cl).ownBlock = some b → ¬ rdfoot g 16 q1 r m v1 b) := fun z hz e => by
          rcases hm1.2 z e with e | e
          · exact HAP.out z hz e
          · have := (HOB.out.lt z hz).2
            omega
        have HLG1 : Hid (lg1 ≤ lg + 1) := hlg1
        have hbc : Below w.heap.size w wc := hbW.trans (HRB.out.low hbW.size hm1)
        have hszc : w.heap.size ≤ wc.heap.size := hbc.size
        clear h1 hq1 hev1 hlg1 HNC0 hm1 HRB HOB HNB hbW nB HAP HQ
        have HOA : Hid ((wc.alloc (.cells (slC nx) 50)).ownsRow w.heap.size 50 34 (.slice al i cl) i (slL L)) := HOC.out.alloc _
        go_wp2_with (first
          | (refine wpList_load_rowg (by rfl) 50 _ (by rfl) (wr.heap.size + 1) (by rfl) 50 (slC nx) (0, 0) _ (by exact nC) Try.underlying50 (by rfl) (sizeSlot.trans (by rw [slC_size])) ?_; simp only [Act.put, List.setIfInBounds_toArray, List.set_cons_zero, List.set_cons_succ])
          | (refine wpList_build1 (by rfl) 77 50 _ (by rfl) (slC nx) (by rfl) i0 (slV sl0) 34 Try.underlying77 hi hz0 hz1 (slC_size _) (by decide) (by decide) ?_; simp only [Act.put, List.setIfInBounds_toArray, List.set_cons_zero, List.set_cons_succ])
          | (at_builtin; refine wpList_append_own_at rfl _ _ 77 rfl (w.heap.size) 50 i0 (slV sl0) 34 48 Try.underlying77 hi hz0 hz1 hz2 (slC_size _) (by decide) _ _ _ rfl HOA.out ⟨wc.heap.size, 0, none⟩ 1 1 (slC nx).toList rfl (by rw [Array.length_toList, slC_size]) (cells_new wc _ _) (slC_one _) (by unfold maxLen; omega) (by omega) (by simp; omega) ?_)
          | go_in)
        intro v' w6 hrow hgr hsb
        obtain ⟨xa, xc, hxe⟩ := kown_slice hrow
        subst hxe
        have hrow2 : w6.ownsRow w.heap.size 50 34 (.slice xa (i + 1) xc) (i + 1) (slL (L ++ [nx])) := by
          rw [slL_snoc]
          exact hrow
        have b6 : ∀ z, z < wc.heap.size → (Value.slice al i cl).ownBlock ≠ some z → w6.heap[z]? = wc.heap[z]? := fun z hz1 hz2 => by
          rw [hgr.block z (by simp; omega) (fun e => hz2 e.symm)]
          exact heap_alloc_old _ _ hz1
        have HR6 : Hid (RD w6 w.heap.size g 16 (fun _ => 0) 0 lg1 q1 [] r m v1 (L ++ [nx])) := HRC.out.same fun z hz => by
          rcases hz with e | e
          · exact b6 z (HRC.out.rdfoots z e).2 fun e2 => HAC.out z e2 e
          · exact b6 z (HRC.out.c.lt z e).2 (own_own HRC.out.c HOC.out (by decide) e)
        have HA6 : Hid (∀ b, (Value.slice xa (i + 1) xc).ownBlock = some b → ¬ rdfoot g 16 q1 r m v1 b) := fun z hz => by
          rcases hsb with e | e
          · exact HAC.out z (by rw [← e]; exact hz)
          · have hz2 : (Value.slice xa (i + 1) xc).ownBlock = some z := hz
            rw [e] at hz2
            injection hz2 with hz2
            exact HRC.out.new_ne (by rw [← hz2]; simp)
        have hb6 : Below w.heap.size w w6 := (hbc.alloc hszc _).grown hgr (by simp; omega) (fun z hz => (HOC.out.lt z hz).1)
        clear hrow hgr hsb b6 HOA HOC HAC hbc nC
        go_wp2_with fail
        refine ⟨⟨i + 1, by omega, by simp, L ++ [nx], q1, v1, lg1, xa, xc, rfl, HR6.out, HQ1.out, HCN.out.snoc nx (by rw [HHT.out.2.2.1, HCN.out.last]), fun s hs => ?_, ⟨by rw [List.length_append, HLI.out]; rfl, by have := HLG1.out; omega⟩, hrow2, HA6.out, hb6⟩, ?_⟩
        · rcases List.mem_append.1 hs with h | h
          · exact H5.out s h
          · simp at h
            rw [h, HNX.out]
        · simp [intOf]
          try omega
      · have i1 : ¬ (i : Int) < (n : Int) := by omega
        obtain rfl : i = n := by omega
        have HREG5 : Hid (RegAt wr w.heap.size r m (some ⟨g, 0, none⟩) v L) := HRD.out.reg
        have hbl5 : ∀ W, Below wr.heap.size wr W → RegAt W w.heap.size r m (some ⟨g, 0, none⟩) v L := fun W hW => HREG5.out.below hW
        have HBR : Hid (∀ W, Below wr.heap.size wr W → RegAt W w.heap.size r m (some ⟨g, 0, none⟩) v L) := hbl5
        clear hbl5 HRD HQ HAP hlt hlg hin
        obtain ⟨fa, hfa⟩ : ∃ fa, fa = max f 1 - 1 := ⟨_, rfl⟩
        have HFA : Hid (fa = max f 1 - 1) := hfa
        clear hfa
        have HO6 : Hid ((wr.alloc (.cells #[] 50)).ownsRow wr.heap.size 50 34 (.slice (some ⟨wr.heap.size, 0, none⟩) 0 0) 0 (slL [])) := kown_empty (Blk.new _ _ _) (Nat.le_refl _)
        have hb6 : Below wr.heap.size wr (wr.alloc (.cells #[] 50)) := below_new1 _ _
        have HS0 : Hid (subL L fa (min t 0) = []) := by
          show subL L fa (min t 0) = []
          unfold subL
          rw [show min t 0 - fa = 0 by omega, List.take_zero]
        go_wp2_with fail
        generalize hw5 : wr = w5 at *
        clear hw5
        go_loopw [15, 79] (fun vw tt wx => ∃ j : Nat, j ≤ i ∧ tt = .int .i64 (j : Int) ∧ ∃ (aw : Option Addr) (cw : Nat), vw = .slice aw (subL L fa (min t j)).length cw ∧ wx.ownsRow w5.heap.size 50 34 (.slice aw (subL L fa (min t j)).length cw) (subL L fa (min t j)).length (slL (subL L fa (min t j))) ∧ Below w5.heap.size w5 wx) (fun _ tt _ => i - (intOf tt).toNat)
        case atStart =>
          refine ⟨0, Nat.zero_le _, rfl, some ⟨w5.heap.size, 0, none⟩, 0, ?_, ?_, hb6⟩
          · rw [HS0.out]
            rfl
          · rw [HS0.out]
            exact HO6.out
        case round =>
          clear HO6 hb6 HS0
          obtain ⟨j, hjn, rfl, aw, cw, rfl, how, hbx⟩ := hrel
          by_cases hj : j < i
          · obtain ⟨sj, hsj⟩ : ∃ sj, L[j]? = some sj := ⟨_, List.getElem?_eq_getElem (by rw [HLI.out]; exact hj)⟩
            have HSJ : Hid (L[j]? = some sj) := hsj
            have HCJ : Hid (sj.1 = j + 1) := HCN.out j sj hsj
            obtain ⟨g5, c5, hv5, hg5, hg6⟩ := kown_form HO.out (by omega)
            injection hv5 with hv5 _ hv6
            subst hv5 hv6
            have HRX : Hid (wr.rangeAt g5 (j * 34) ((List.range 34).map (slF sj))) := by
              have h1 := kown_below HO.out hbx
              have h2 := HLI.out
              rw [← h2] at h1
              exact own_slot h1 j sj hsj
            have j0 : (0 : Int) ≤ (j : Int) := by omega
            have j1 : (j : Int) < (i : Int) := by omega
            have hi2 : (i : Int) ≤ 2000 := by omega
            have HAGE : Hid (∀ W, Below w5.heap.size w5 W → Calls Try.prog 32 #[.pointer (some ⟨r, 0, none⟩), .agg (slC sj)] W fun e w' => e = .returned (.tuple #[.int .i64 ((i : Int) - 1 - (j : Int)), .bool true]) ∧ Below W.heap.size W w') := fun W hW => by
              have := age_at HCN.out j sj HSJ.out (by rw [HLI.out]; omega) W (HBR.out W hW)
              rw [HLI.out] at this
              exact this
            have HATT : Hid (∀ W, Below w5.heap.size w5 W → Calls Try.prog 33 #[.pointer (some ⟨r, 0, none⟩), .int .u64 ((j : Int) + 1)] W fun e w' => e = .returned (.tuple #[.agg (slC sj), .bool true]) ∧ Below W.heap.size W w') := fun W hW => by
              have := at_at (j + 1) (by omega) W (by rw [HLI.out]; omega) (HBR.out W hW)
              have e1 : atS L (j + 1) = sj := by
                unfold atS
                rw [if_pos ⟨by omega, by rw [HLI.out]; omega⟩, List.getD_eq_getElem?_getD, show j + 1 - 1 = j by omega, HSJ.out]
                rfl
              have e2 : atB L (j + 1) = true := decide_eq_true ⟨by omega, by rw [HLI.out]; omega⟩
              rw [e1, e2] at this
              exact this
            have heq : ∀ W, (Op.equalIn 10000 50 (.agg (slC sj)) (.agg (slC sj))).run Try.prog W = .ok true W := fun W => by
              have := eq_slot sj sj W
              rw [decide_eq_true rfl] at this
              exact this
            have l0 := Blk.new wr 50 (slC sl0)
            have l1 := l0.set (slC sj)
            have x0 : ((wr.alloc (.cells (slC sl0) 50)).setRow wr.heap.size (slC sj)).cell? ⟨wr.heap.size, 0, none⟩ = some (.int .u64 ((j : Int) + 1)) := l1.cell0 HCJ.out
            have hbl : Below w5.heap.size w5 ((wr.alloc (.cells (slC sl0) 50)).setRow wr.heap.size (slC sj)) := below_setRow (hbx.alloc hbx.size _) hbx.size _
            have HOl : Hid (((wr.alloc (.cells (slC sl0) 50)).setRow wr.heap.size (slC sj)).ownsRow w5.heap.size 50 34 (.slice aw (subL L fa (min t j)).length cw) (subL L fa (min t j)).length (slL (subL L fa (min t j)))) := kown_below how (below_setRow (below_new1 _ _) (Nat.le_refl _) _)
            have HNVs : Hid ((Value.slice aw (subL L fa (min t j)).length cw).ownBlock ≠ some wr.heap.size) := fun e => by
              have := (how.lt _ e).2
              omega
            have HLn : Hid ((subL L fa (min t j)).length ≤ i) := by
              show (subL L fa (min t j)).length ≤ i
              rw [subL_length L fa _ (by rw [HLI.out]; omega)]
              omega
            obtain ⟨W0, hW0⟩ : ∃ W0, W0 = subL L fa (min t j) := ⟨_, rfl⟩
            have HW0 : Hid (W0 = subL L fa (min t j)) := hW0
            rw [← hW0] at HOl HNVs HLn ⊢
            clear hW0 how hsj
            obtain ⟨nw, hnw⟩ : ∃ nw, nw = W0.length := ⟨_, rfl⟩
            have HNW0 : Hid (nw = W0.length) := hnw
            rw [← hnw] at HOl HNVs HLn ⊢
            have hnl : nw ≤ 2000 := by have := HLn.out; omega
            clear hnw
            have HSZ : Hid ((((wr.alloc (.cells (slC sl0) 50)).setRow wr.heap.size (slC sj)).alloc (.cells (slC sj) 50)).heap.size = wr.heap.size + 2) := by
              show _ = _
              simp [setRow_size]
            have HCN2 : Hid (∀ x u, (slC sj).toList[x]? = some u → (((wr.alloc (.cells (slC sl0) 50)).setRow wr.heap.size (slC sj)).alloc (.cells (slC sj) 50)).cell? ((⟨wr.heap.size + 1, 0, none⟩ : Addr).add x) = some u) := by
              have := cells_new ((wr.alloc (.cells (slC sl0) 50)).setRow wr.heap.size (slC sj)) (slC sj) 50
              rw [show ((wr.alloc (.cells (slC sl0) 50)).setRow wr.heap.size (slC sj)).heap.size = wr.heap.size + 1 by rw [setRow_size]; simp] at this
              exact this
            have hszx : w5.heap.size ≤ wr.heap.size := hbx.size
            by_cases h1 : f ≤ j + 1
            · have d1' : (f : Int) ≤ (j : Int) + 1 := by omega
              by_cases h2 : j + 1 ≤ t
              · have d2' : (j : Int) + 1 ≤ (t : Int) := by omega
                have HWS : Hid (subL L fa (min t (j + 1)) = W0 ++ [sj]) := by
                  show subL L fa (min t (j + 1)) = W0 ++ [sj]
                  rw [HW0.out]
                  exact sub_in L fa t j sj HSJ.out (by have := HFA.out; omega) (by omega)
                go_wp2_with (first
                  | (refine wpList_load_blk (by rfl) 50 _ (by rfl) (g5) (j * 34) 34 (slF sj) (by rfl) _ (by exact HRX.out) Try.underlying50 rfl sizeSlot ?_; simp only [Act.put, List.setIfInBounds_toArray, List.set_cons_zero, List.set_cons_succ])
                  | (refine wpList_store_row (by rfl) 50 _ _ (by rfl) (wr.heap.size) (slC sj) (by rfl) (by rfl) 50 (slC sl0) (by exact l0) (sizeSlot.trans (by rw [slC_size])) (by simp only [slC_size]) (slC_all _) ?_; simp only [Act.put, List.setIfInBounds_toArray, List.set_cons_zero, List.set_cons_succ])
                  | (refine wpList_load_rowg (by rfl) 50 _ (by rfl) (wr.heap.size) (by rfl) 50 (slC sj) (0, 0) _ (by exact l1) Try.underlying50 (by rfl) (sizeSlot.trans (by rw [slC_size])) ?_; simp only [Act.put, List.setIfInBounds_toArray, List.set_cons_zero, List.set_cons_succ])
                  | (refine wpList_build1 (by rfl) 77 50 _ (by rfl) (slC sj) (by rfl) i0 (slV sl0) 34 Try.underlying77 hi hz0 hz1 (slC_size _) (by decide) (by decide) ?_; simp only [Act.put, List.setIfInBounds_toArray, List.set_cons_zero, List.set_cons_succ])
                  | (at_builtin; refine wpList_append_own_at rfl _ _ 77 rfl (w5.heap.size) 50 i0 (slV sl0) 34 48 Try.underlying77 hi hz0 hz1 hz2 (slC_size _) (by decide) _ _ _ rfl (HOl.out.alloc _) ⟨((wr.alloc (.cells (slC sl0) 50)).setRow wr.heap.size (slC sj)).heap.size, 0, none⟩ 1 1 (slC sj).toList rfl (by rw [Array.length_toList, slC_size]) (cells_new ((wr.alloc (.cells (slC sl0) 50)).setRow wr.heap.size (slC sj)) _ _) (slC_one _) (by unfold maxLen; omega) (by omega) (by rw [HSZ.out]; omega) ?_)
                  | go_in)
                intro v' wp0 hrow hgr hsb
                obtain ⟨aw1, cw1, hxe⟩ := kown_slice hrow
                subst hxe
                have sP : Blk wp0 wr.heap.size 50 (slC sj) := (hgr.block _ (by rw [HSZ.out]; omega) (fun e => HNVs.out e.symm)).trans (l1.alloc _)
                have hbP : Below w5.heap.size w5 wp0 := (hbl.alloc hbl.size _).grown hgr (by rw [HSZ.out]; have := hbx.size; omega) (fun z hz => (HOl.out.lt z hz).1)
                have HOp : Hid (wp0.ownsRow w5.heap.size 50 34 (.slice aw1 (nw + 1) cw1) (nw + 1) (slL (W0 ++ [sj]))) := by
                  rw [slL_snoc]
                  exact hrow
                have HW1 : Hid (subL L fa (min t (j + 1)) = W0 ++ [sj]) := HWS.out
                have HNW : Hid ((W0 ++ [sj]).length = nw + 1) := by
                  show (W0 ++ [sj]).length = nw + 1
                  rw [List.length_append, ← HNW0.out]
                  rfl
                clear hrow hgr hsb l0 l1 x0 hbl HOl HRX HCN2 HSZ
                go_wp2_with (first
                  | (refine wpList_load_rowg (by rfl) 50 _ (by rfl) (wr.heap.size) (by rfl) 50 (slC sj) (0, 0) _ (by exact sP) Try.underlying50 (by rfl) (sizeSlot.trans (by rw [slC_size])) ?_; simp only [Act.put, List.setIfInBounds_toArray, List.set_cons_zero, List.set_cons_succ])
                  | fail)
                refine (HAGE.out wp0 hbP).mono ?_
                rintro e wq ⟨rfl, hbq⟩
                have sQ := sP.below hbq sP.lt
                have xQ : wq.cell? ⟨wr.heap.size, 0, none⟩ = some (.int .u64 ((j : Int) + 1)) := sQ.cell0 HCJ.out
                have HOq : Hid (wq.ownsRow w5.heap.size 50 34 (.slice aw1 (nw + 1) cw1) (nw + 1) (slL (W0 ++ [sj]))) := kown_below HOp.out hbq
                have hbQ : Below w5.heap.size w5 wq := hbP.trans (hbq.mono hbP.size)
                clear hbq sP hbP HOp
                go_wp2_with fail
                refine (HATT.out wq hbQ).mono ?_
                rintro e ws ⟨rfl, hbs⟩
                have sS0 := sQ.below hbs sQ.lt
                have hbS0 : Below w5.heap.size w5 ws := hbQ.trans (hbs.mono hbQ.size)
                have HOs0 : Hid (ws.ownsRow w5.heap.size 50 34 (.slice aw1 (nw + 1) cw1) (nw + 1) (slL (W0 ++ [sj]))) := kown_below HOq.out hbs
                clear hbs sQ xQ hbQ HOq
                have t0 := Blk.new ws 50 (slC sl0)
                have tS := t0.set (slC sj)
                have sS : Blk ((ws.alloc (.cells (slC sl0) 50)).setRow ws.heap.size (slC sj)) wr.heap.size 50 (slC sj) := (sS0.alloc _).other _ (Nat.ne_of_lt sS0.lt)
                have hbS : Below w5.heap.size w5 ((ws.alloc (.cells (slC sl0) 50)).setRow ws.heap.size (slC sj)) := below_setRow (hbS0.alloc hbS0.size _) hbS0.size _
                have HOs : Hid (((ws.alloc (.cells (slC sl0) 50)).setRow ws.heap.size (slC sj)).ownsRow w5.heap.size 50 34 (.slice aw1 (nw + 1) cw1) (nw + 1) (slL (W0 ++ [sj]))) := kown_below HOs0.out (below_setRow (below_new1 _ _) (Nat.le_refl _) _)
                go_wp2_with (first
                  | (refine wpList_store_row (by rfl) 50 _ _ (by rfl) (ws.heap.size) (slC sj) (by rfl) (by rfl) 50 (slC sl0) (by exact t0) (sizeSlot.trans (by rw [slC_size])) (by simp only [slC_size]) (slC_all _) ?_; simp only [Act.put, List.setIfInBounds_toArray, List.set_cons_zero, List.set_cons_succ])
                  | (refine wpList_load_rowg (by rfl) 50 _ (by rfl) (ws.heap.size) (by rfl) 50 (slC sj) (0, 0) _ (by exact tS) Try.underlying50 (by rfl) (sizeSlot.trans (by rw [slC_size])) ?_; simp only [Act.put, List.setIfInBounds_toArray, List.set_cons_zero, List.set_cons_succ])
                  | (refine wpList_load_rowg (by rfl) 50 _ (by rfl) (wr.heap.size) (by rfl) 50 (slC sj) (0, 0) _ (by exact sS) Try.underlying50 (by rfl) (sizeSlot.trans (by rw [slC_size])) ?_; simp only [Act.put, List.setIfInBounds_toArray, List.set_cons_zero, List.set_cons_succ])
                  | fail)
                refine ⟨⟨j + 1, by omega, by simp, aw1, cw1, ?_, ?_, hbS⟩, ?_⟩
                · rw [HW1.out, HNW.out]
                · rw [HW1.out, HNW.out]
                  exact HOs.out
                · simp [intOf]
                  try omega
              · have d2' : ¬ (j : Int) + 1 ≤ (t : Int) := by omega
                have HW1 : Hid (subL L fa (min t (j + 1)) = W0) := by
                  show subL L fa (min t (j + 1)) = W0
                  rw [HW0.out]
                  exact sub_out L fa t j (by omega)
                have HNW : Hid (W0.length = nw) := HNW0.out.symm
                clear HCN2 HSZ
                go_wp2_with (first
                  | (refine wpList_load_blk (by rfl) 50 _ (by rfl) (g5) (j * 34) 34 (slF sj) (by rfl) _ (by exact HRX.out) Try.underlying50 rfl sizeSlot ?_; simp only [Act.put, List.setIfInBounds_toArray, List.set_cons_zero, List.set_cons_succ])
                  | (refine wpList_store_row (by rfl) 50 _ _ (by rfl) (wr.heap.size) (slC sj) (by rfl) (by rfl) 50 (slC sl0) (by exact l0) (sizeSlot.trans (by rw [slC_size])) (by simp only [slC_size]) (slC_all _) ?_; simp only [Act.put, List.setIfInBounds_toArray, List.set_cons_zero, List.set_cons_succ])
                  | (refine wpList_load_rowg (by rfl) 50 _ (by rfl) (wr.heap.size) (by rfl) 50 (slC sj) (0, 0) _ (by exact l1) Try.underlying50 (by rfl) (sizeSlot.trans (by rw [slC_size])) ?_; simp only [Act.put, List.setIfInBounds_toArray, List.set_cons_zero, List.set_cons_succ])
                  | fail)
                generalize ((wr.alloc (.cells (slC sl0) 50)).setRow wr.heap.size (slC sj)) = wp at *
                have sP := l1
                have hbP := hbl
                have HOp := HOl
                clear l0 l1 x0 hbl HOl HRX
                refine (HAGE.out wp hbP).mono ?_
                rintro e wq ⟨rfl, hbq⟩
                have sQ := sP.below hbq sP.lt
                have xQ : wq.cell? ⟨wr.heap.size, 0, none⟩ = some (.int .u64 ((j : Int) + 1)) := sQ.cell0 HCJ.out
                have HOq : Hid (wq.ownsRow w5.heap.size 50 34 (.slice aw nw cw) nw (slL W0)) := kown_below HOp.out hbq
                have hbQ : Below w5.heap.size w5 wq := hbP.trans (hbq.mono hbP.size)
                clear hbq sP hbP HOp
                go_wp2_with fail
                refine (HATT.out wq hbQ).mono ?_
                rintro e ws ⟨rfl, hbs⟩
                have sS0 := sQ.below hbs sQ.lt
                have hbS0 : Below w5.heap.size w5 ws := hbQ.trans (hbs.mono hbQ.size)
                have HOs0 : Hid (ws.ownsRow w5.heap.size 50 34 (.slice aw nw cw) nw (slL W0)) := kown_below HOq.out hbs
                clear hbs sQ xQ hbQ HOq
                have t0 := Blk.new ws 50 (slC sl0)
                have tS := t0.set (slC sj)
                have sS : Blk ((ws.alloc (.cells (slC sl0) 50)).setRow ws.heap.size (slC sj)) wr.heap.size 50 (slC sj) := (sS0.alloc _).other _ (Nat.ne_of_lt sS0.lt)
                have hbS : Below w5.heap.size w5 ((ws.alloc (.cells (slC sl0) 50)).setRow ws.heap.size (slC sj)) := below_setRow (hbS0.alloc hbS0.size _) hbS0.size _
                have HOs : Hid (((ws.alloc (.cells (slC sl0) 50)).setRow ws.heap.size (slC sj)).ownsRow w5.heap.size 50 34 (.slice aw nw cw) nw (slL W0)) := kown_below HOs0.out (below_setRow (below_new1 _ _) (Nat.le_refl _) _)
                go_wp2_with (first
                  | (refine wpList_store_row (by rfl) 50 _ _ (by rfl) (ws.heap.size) (slC sj) (by rfl) (by rfl) 50 (slC sl0) (by exact t0) (sizeSlot.trans (by rw [slC_size])) (by simp only [slC_size]) (slC_all _) ?_; simp only [Act.put, List.setIfInBounds_toArray, List.set_cons_zero, List.set_cons_succ])
                  | (refine wpList_load_rowg (by rfl) 50 _ (by rfl) (ws.heap.size) (by rfl) 50 (slC sj) (0, 0) _ (by exact tS) Try.underlying50 (by rfl) (sizeSlot.trans (by rw [slC_size])) ?_; simp only [Act.put, List.setIfInBounds_toArray, List.set_cons_zero, List.set_cons_succ])
                  | (refine wpList_load_rowg (by rfl) 50 _ (by rfl) (wr.heap.size) (by rfl) 50 (slC sj) (0, 0) _ (by exact sS) Try.underlying50 (by rfl) (sizeSlot.trans (by rw [slC_size])) ?_; simp only [Act.put, List.setIfInBounds_toArray, List.set_cons_zero, List.set_cons_succ])
                  | fail)
                refine ⟨⟨j + 1, by omega, by simp, aw, cw, ?_, ?_, hbS⟩, ?_⟩
                · rw [HW1.out, HNW.out]
                · rw [HW1.out, HNW.out]
                  exact HOs.out
                · simp [intOf]
                  try omega
            · have d1' : ¬ (f : Int) ≤ (j : Int) + 1 := by omega
              have HW1 : Hid (subL L fa (min t (j + 1)) = W0) := by
                show subL L fa (min t (j + 1)) = W0
                rw [HW0.out]
                exact sub_out L fa t j (by have := HFA.out; omega)
              have HNW : Hid (W0.length = nw) := HNW0.out.symm
              clear HCN2 HSZ
              go_wp2_with (first
                | (refine wpList_load_blk (by rfl) 50 _ (by rfl) (g5) (j * 34) 34 (slF sj) (by rfl) _ (by exact HRX.out) Try.underlying50 rfl sizeSlot ?_; simp only [Act.put, List.setIfInBounds_toArray, List.set_cons_zero, List.set_cons_succ])
                | (refine wpList_store_row (by rfl) 50 _ _ (by rfl) (wr.heap.size) (slC sj) (by rfl) (by rfl) 50 (slC sl0) (by exact l0) (sizeSlot.trans (by rw [slC_size])) (by simp only [slC_size]) (slC_all _) ?_; simp only [Act.put, List.setIfInBounds_toArray, List.set_cons_zero, List.set_cons_succ])
                | (refine wpList_load_rowg (by rfl) 50 _ (by rfl) (wr.heap.size) (by rfl) 50 (slC sj) (0, 0) _ (by exact l1) Try.underlying50 (by rfl) (sizeSlot.trans (by rw [slC_size])) ?_; simp only [Act.put, List.setIfInBounds_toArray, List.set_cons_zero, List.set_cons_succ])
                | fail)
              generalize ((wr.alloc (.cells (slC sl0) 50)).setRow wr.heap.size (slC sj)) = wp at *
              have sP := l1
              have hbP := hbl
              have HOp := HOl
              clear l0 l1 x0 hbl HOl HRX
              refine (HAGE.out wp hbP).mono ?_
              rintro e wq ⟨rfl, hbq⟩
              have sQ := sP.below hbq sP.lt
              have xQ : wq.cell? ⟨wr.heap.size, 0, none⟩ = some (.int .u64 ((j : Int) + 1)) := sQ.cell0 HCJ.out
              have HOq : Hid (wq.ownsRow w5.heap.size 50 34 (.slice aw nw cw) nw (slL W0)) := kown_below HOp.out hbq
              have hbQ : Below w5.heap.size w5 wq := hbP.trans (hbq.mono hbP.size)
              clear hbq sP hbP HOp
              go_wp2_with fail
              refine (HATT.out wq hbQ).mono ?_
              rintro e ws ⟨rfl, hbs⟩
              have sS0 := sQ.below hbs sQ.lt
              have hbS0 : Below w5.heap.size w5 ws := hbQ.trans (hbs.mono hbQ.size)
              have HOs0 : Hid (ws.ownsRow w5.heap.size 50 34 (.slice aw nw cw) nw (slL W0)) := kown_below HOq.out hbs
              clear hbs sQ xQ hbQ HOq
              have t0 := Blk.new ws 50 (slC sl0)
              have tS := t0.set (slC sj)
              have sS : Blk ((ws.alloc (.cells (slC sl0) 50)).setRow ws.heap.size (slC sj)) wr.heap.size 50 (slC sj) := (sS0.alloc _).other _ (Nat.ne_of_lt sS0.lt)
              have hbS : Below w5.heap.size w5 ((ws.alloc (.cells (slC sl0) 50)).setRow ws.heap.size (slC sj)) := below_setRow (hbS0.alloc hbS0.size _) hbS0.size _
              have HOs : Hid (((ws.alloc (.cells (slC sl0) 50)).setRow ws.heap.size (slC sj)).ownsRow w5.heap.size 50 34 (.slice aw nw cw) nw (slL W0)) := kown_below HOs0.out (below_setRow (below_new1 _ _) (Nat.le_refl _) _)
              go_wp2_with (first
                | (refine wpList_store_row (by rfl) 50 _ _ (by rfl) (ws.heap.size) (slC sj) (by rfl) (by rfl) 50 (slC sl0) (by exact t0) (sizeSlot.trans (by rw [slC_size])) (by simp only [slC_size]) (slC_all _) ?_; simp only [Act.put, List.setIfInBounds_toArray, List.set_cons_zero, List.set_cons_succ])
                | (refine wpList_load_rowg (by rfl) 50 _ (by rfl) (ws.heap.size) (by rfl) 50 (slC sj) (0, 0) _ (by exact tS) Try.underlying50 (by rfl) (sizeSlot.trans (by rw [slC_size])) ?_; simp only [Act.put, List.setIfInBounds_toArray, List.set_cons_zero, List.set_cons_succ])
                | (refine wpList_load_rowg (by rfl) 50 _ (by rfl) (wr.heap.size) (by rfl) 50 (slC sj) (0, 0) _ (by exact sS) Try.underlying50 (by rfl) (sizeSlot.trans (by rw [slC_size])) ?_; simp only [Act.put, List.setIfInBounds_toArray, List.set_cons_zero, List.set_cons_succ])
                | fail)
              refine ⟨⟨j + 1, by omega, by simp, aw, cw, ?_, ?_, hbS⟩, ?_⟩
              · rw [HW1.out, HNW.out]
              · rw [HW1.out, HNW.out]
                exact HOs.out
              · simp [intOf]
                try omega
          · have j1 : ¬ (j : Int) < (i : Int) := by omega
            have hji : j = i := by omega
            obtain ⟨W0, hW0⟩ : ∃ W0, W0 = subL L fa (min t j) := ⟨_, rfl⟩
            have HWB : Hid (betL L f t = W0) := by
              show betL L f t = W0
              unfold betL
              rw [hW0, hji, HLI.out, ← HFA.out]
            rw [← hW0] at how ⊢
            clear hW0
            obtain ⟨nw, hnw⟩ : ∃ nw, nw = W0.length := ⟨_, rfl⟩
            have HNW : Hid (nw = W0.length) := hnw
            rw [← hnw] at how ⊢
            have hnw2 : nw ≤ 2000 := by
              have h1 := HLI.out
              rw [HNW.out, ← HWB.out]
              unfold betL
              rw [subL_length L _ _ (by omega)]
              omega
            clear hnw hj hjn
            have HBET : Hid (∀ W, Below w5.heap.size w5 W → Calls Try.prog 34 #[.pointer (some ⟨r, 0, none⟩), .int .u64 (f : Int), .int .u64 (t : Int)] W fun e w' => ∃ a c, e = .returned (.slice a nw c) ∧ w'.ownsRow W.heap.size 50 34 (.slice a nw c) nw (slL W0) ∧ Below W.heap.size W w') := fun W hW => by
              have := between_at f t hf ht W (by rw [HLI.out]; omega) (HBR.out W hW)
              rw [HWB.out, ← HNW.out] at this
              exact this
            have HFT : Hid (f < 18446744073709551616 ∧ t < 18446744073709551616) := ⟨hf, ht⟩
            have HBW : Hid (Below w.heap.size w w5) := hb
            have HOW : Hid (wr.ownsRow w5.heap.size 50 34 (.slice aw nw cw) nw (slL W0)) := how
            clear how hb hf ht
            go_wp2_with fail
            refine (HBET.out wr hbx).mono ?_
            rintro e w7 ⟨ag, cg, rfl, hog, hb7⟩
            have HOG : Hid (w7.ownsRow wr.heap.size 50 34 (.slice ag nw cg) nw (slL W0)) := hog
            have HOW7 : Hid (w7.ownsRow w5.heap.size 50 34 (.slice aw nw cw) nw (slL W0)) := kown_below HOW.out hb7
            have hb57 : Below w5.heap.size w5 w7 := hbx.trans (hb7.mono hbx.size)
            clear hog hb7 HOW HBET hbx
            go_wp2_with fail
            go_loopw [143] (fun tt wx => ∃ y : Nat, y ≤ nw ∧ tt = .int .i64 (y : Int) ∧ Below w7.heap.size w7 wx) (fun tt _ => nw - (intOf tt).toNat)
            case atStart => exact ⟨0, Nat.zero_le _, rfl, Below.refl _ _⟩
            case round =>
              obtain ⟨y, hyn, rfl, hby⟩ := hrel
              by_cases hy : y < nw
              · obtain ⟨sy, hsy⟩ : ∃ sy, W0[y]? = some sy := ⟨_, List.getElem?_eq_getElem (by rw [← HNW.out]; exact hy)⟩
                obtain ⟨g7, c7, hv7, _, _⟩ := kown_form HOG.out (by omega)
                injection hv7 with hv7 _ hv7'
                subst hv7 hv7'
                obtain ⟨g8, c8, hv8, _, _⟩ := kown_form HOW7.out (by omega)
                injection hv8 with hv8 _ hv8'
                subst hv8 hv8'
                have HR7 : Hid (wr.rangeAt g7 (y * 34) ((List.range 34).map (slF sy))) := by
                  have h1 := kown_below HOG.out hby
                  have h2 := HNW.out
                  rw [h2] at h1
                  exact own_slot h1 y sy hsy
                have HR8 : Hid (wr.rangeAt g8 (y * 34) ((List.range 34).map (slF sy))) := by
                  have h1 := kown_below HOW7.out hby
                  have h2 := HNW.out
                  rw [h2] at h1
                  exact own_slot h1 y sy hsy
                have y0 : (0 : Int) ≤ (y : Int) := by omega
                have y1 : (y : Int) < (nw : Int) := by omega
                have heqy : ∀ W, (Op.equalIn 10000 50 (.agg (slC sy)) (.agg (slC sy))).run Try.prog W = .ok true W := fun W => by
                  have := eq_slot sy sy W
                  rw [decide_eq_true rfl] at this
                  exact this
                clear hsy
                go_wp2_with fail
                refine wp_region_partsS (fun W => W.rangeAt g7 (y * 34) ((List.range 34).map (slF sy)) ∧ W.rangeAt g8 (y * 34) ((List.range 34).map (slF sy))) [([0, 1, 2, 4, 5, 6], 3, true), ([], 7, false), ([], 8, false)] [] [] (by kernel_rfl) (by kernel_rfl) ⟨HR7.out, HR8.out⟩ (partsI_yield ?_)
                simp only [List.cons_append, List.nil_append, List.append_nil, List.filterMap_cons, List.filterMap_nil, List.getElem?_toArray, List.getElem?_cons_zero, List.getElem?_cons_succ]
                go_wp2_with fail
                refine ⟨rfl, _, .agg (slC sy), rfl, kyields_mid (by rfl) 50 _ (by rfl) g7 (y * 34) 34 (slF sy) (by rfl) _ (fun W hW => hW.1) Try.underlying50 rfl sizeSlot, partsI_force ?_⟩
                simp only [Act.put, List.setIfInBounds_toArray, List.set_cons_zero, List.set_cons_succ]
                simp only [List.cons_append, List.nil_append, List.append_nil, List.filterMap_cons, List.filterMap_nil, List.getElem?_toArray, List.getElem?_cons_zero, List.getElem?_cons_succ]
                refine wpList_load_slot (by rfl) _ (by rfl) g8 (y * 34) sy (by rfl) HR8.out ?_
                simp only [Act.put, List.setIfInBounds_toArray, List.set_cons_zero, List.set_cons_succ]
                go_wp2_with fail
                refine ⟨rfl, ⟨HR7.out, HR8.out⟩, partsI_force ?_⟩
                simp only [List.cons_append, List.nil_append, List.append_nil, List.filterMap_cons, List.filterMap_nil, List.getElem?_toArray, List.getElem?_cons_zero, List.getElem?_cons_succ]
                go_wp2_with fail
                refine ⟨rfl, ⟨HR7.out, HR8.out⟩, partsI_last ?_⟩
                simp only [List.cons_append, List.nil_append, List.append_nil, List.filterMap_cons, List.filterMap_nil, List.getElem?_toArray, List.getElem?_cons_zero, List.getElem?_cons_succ]
                go_wp2_with fail
                refine ⟨rfl, ?_⟩
                go_wp2_with fail
                refine ⟨⟨y + 1, by omega, by simp, hby.drew⟩, ?_⟩
                simp [intOf]
                try omega
              · have y1 : ¬ (y : Int) < (nw : Int) := by omega
                have hbR : Below w5.heap.size w5 wr := hb57.trans (hby.mono hb57.size)
                obtain ⟨az, haz⟩ : ∃ az, az = atS L f := ⟨_, rfl⟩
                have HASD : Hid (atS L f = az) := haz.symm
                have hi2 : i ≤ 2000 := hn
                have HATN : Hid (∀ W, Calls Try.prog 33 #[.pointer none, .int .u64 (f : Int)] W fun e w' => e = .returned (.tuple #[.agg (slC sl0), .bool false]) ∧ Below W.heap.size W w') := fun W => at_none _ W
                have HAGN : Hid (∀ W, Calls Try.prog 32 #[.pointer none, .agg (slC sl0)] W fun e w' => e = .returned (.tuple #[.int .i64 0, .bool false]) ∧ Below W.heap.size W w') := fun W => age_none sl0 W
                have HBTN : Hid (∀ W, Calls Try.prog 34 #[.pointer none, .int .u64 (f : Int), .int .u64 (t : Int)] W fun e w' => e = .returned (.slice none 0 0) ∧ W = w') := fun W => between_none _ _ W
                obtain ⟨sf, hsf⟩ : ∃ sf : Sl, sf = (f, 6, Vector.replicate 32 0) := ⟨_, rfl⟩
                have HAGF : Hid (∀ W, Below w5.heap.size w5 W → Calls Try.prog 32 #[.pointer (some ⟨r, 0, none⟩), .agg (slC sf)] W fun e w' => e = .returned (.tuple #[.int .i64 0, .bool false]) ∧ Below W.heap.size W w') := fun W hW => age_not sf (fun hm => by
                  have := H5.out sf hm
                  rw [hsf] at this
                  exact absurd this (by show ¬ (6 : Nat) = 5; decide)) W (HBR.out W hW)
                have hbs1 : Hid (Try.prog.built 48 [(0, .int .u32 6)] = some (va 33 (rfF 6 (Vector.replicate 32 0)))) := built_ref1 6
                have hbs2 : Hid (Try.prog.built 50 [(0, .int .u64 (f : Int)), (1, .agg (va 33 (rfF 6 (Vector.replicate 32 0))))] = some (slC sf)) := by
                  show _ = _
                  rw [hsf]
                  exact built_slot f 6 _
                have heq0 : ∀ W, (Op.equalIn 10000 50 (.agg (slC sl0)) (.agg (slC sl0))).run Try.prog W = .ok true W := fun W => by
                  have := eq_slot sl0 sl0 W
                  rw [decide_eq_true rfl] at this
                  exact this
                clear haz hsf hyn hby hb57 HOG HOW7 hy
                by_cases hf1 : 1 ≤ f
                · by_cases hf2 : f ≤ i
                  · have b1 : (1 : Int) ≤ (f : Int) := by omega
                    have b2 : (f : Int) ≤ (i : Int) := by omega
                    have HATF : Hid (∀ W, Below w5.heap.size w5 W → Calls Try.prog 33 #[.pointer (some ⟨r, 0, none⟩), .int .u64 (f : Int)] W fun e w' => e = .returned (.tuple #[.agg (slC az), .bool true]) ∧ Below W.heap.size W w') := fun W hW => by
                      have := at_at f HFT.out.1 W (by rw [HLI.out]; omega) (HBR.out W hW)
                      rw [HASD.out, show atB L f = true from decide_eq_true (by rw [HLI.out]; omega)] at this
                      exact this
                    go_wp2_with fail
                    refine (HATF.out wr hbR).mono ?_
                    rintro e wt ⟨rfl, hbt⟩
                    have hbT0 : Below w5.heap.size w5 wt := hbR.trans (hbt.mono hbR.size)
                    clear hbt
                    have p0 := Blk.new wt 50 (slC sl0)
                    have p1 := p0.set (slC az)
                    have hbT : Below w5.heap.size w5 ((wt.alloc (.cells (slC sl0) 50)).setRow wt.heap.size (slC az)) := below_setRow (hbT0.alloc hbT0.size _) hbT0.size _
                    go_wp2_with (first
                      | (refine wpList_store_row (by rfl) 50 _ _ (by rfl) (wt.heap.size) (slC az) (by rfl) (by rfl) 50 (slC sl0) (by exact p0) (sizeSlot.trans (by rw [slC_size])) (by simp only [slC_size]) (slC_all _) ?_; simp only [Act.put, List.setIfInBounds_toArray, List.set_cons_zero, List.set_cons_succ])
                      | (refine wpList_load_rowg (by rfl) 50 _ (by rfl) (wt.heap.size) (by rfl) 50 (slC az) (0, 0) _ (by exact p1) Try.underlying50 (by rfl) (sizeSlot.trans (by rw [slC_size])) ?_; simp only [Act.put, List.setIfInBounds_toArray, List.set_cons_zero, List.set_cons_succ])
                      | (refine wpList_build_at (by rfl) 48 _ (by rfl) [(0, .int .u32 6)] (by rfl) (va 33 (rfF 6 (Vector.replicate 32 0))) (built_ref1 6) ?_; simp only [Act.put, List.setIfInBounds_toArray, List.set_cons_zero, List.set_cons_succ])
                      | (refine wpList_build2 (by rfl) 50 _ _ (by rfl) (.int .u64 (f : Int)) (.agg (va 33 (rfF 6 (Vector.replicate 32 0)))) (by rfl) (by rfl) (slC sf) (by exact hbs2.out) ?_; simp only [Act.put, List.setIfInBounds_toArray, List.set_cons_zero, List.set_cons_succ])
                      | fail)
                    clear p0
                    generalize ((wt.alloc (.cells (slC sl0) 50)).setRow wt.heap.size (slC az)) = wT at *
                    refine (HAGF.out wT hbT).mono ?_
                    rintro e wu ⟨rfl, hbu⟩
                    have pU := p1.below hbu p1.lt
                    have hbU : Below w5.heap.size w5 wu := hbT.trans (hbu.mono hbT.size)
                    clear hbu p1 hbT
                    go_wp2_with fail
                    refine (HATN.out wu).mono ?_
                    rintro e wv ⟨rfl, hbv⟩
                    have pV := pU.below hbv pU.lt
                    have hbV0 : Below w5.heap.size w5 wv := hbU.trans (hbv.mono hbU.size)
                    clear hbv pU hbU
                    have qV := pV.set (slC sl0)
                    have hbV : Below w5.heap.size w5 (wv.setRow wt.heap.size (slC sl0)) := below_setRow hbV0 hbT0.size _
                    go_wp2_with (first
                      | (refine wpList_store_row (by rfl) 50 _ _ (by rfl) (wt.heap.size) (slC sl0) (by rfl) (by rfl) 50 (slC az) (by exact pV) (sizeSlot.trans (by rw [slC_size])) (by simp only [slC_size]) (slC_all _) ?_; simp only [Act.put, List.setIfInBounds_toArray, List.set_cons_zero, List.set_cons_succ])
                      | fail)
                    clear pV hbV0
                    generalize (wv.setRow wt.heap.size (slC sl0)) = wV at *
                    refine (HAGN.out wV).mono ?_
                    rintro e wy ⟨rfl, hby⟩
                    have qY := qV.below hby qV.lt
                    have hbY : Below w5.heap.size w5 wy := hbV.trans (hby.mono hbV.size)
                    clear hby qV hbV
                    go_wp2_with (first
                      | (refine wpList_load_rowg (by rfl) 50 _ (by rfl) (wt.heap.size) (by rfl) 50 (slC sl0) (0, 0) _ (by exact qY) Try.underlying50 (by rfl) (sizeSlot.trans (by rw [slC_size])) ?_; simp only [Act.put, List.setIfInBounds_toArray, List.set_cons_zero, List.set_cons_succ])
                      | fail)
                    refine (HBTN.out wy).mono ?_
                    rintro e _ ⟨rfl, rfl⟩
                    go_wp2_with fail
                    go_ret
                    exact ⟨rfl, HBW.out.trans (hbY.mono HBW.out.size)⟩
                  · have b1 : (1 : Int) ≤ (f : Int) := by omega
                    have b2 : ¬ (f : Int) ≤ (i : Int) := by omega
                    have HATF : Hid (∀ W, Below w5.heap.size w5 W → Calls Try.prog 33 #[.pointer (some ⟨r, 0, none⟩), .int .u64 (f : Int)] W fun e w' => e = .returned (.tuple #[.agg (slC az), .bool false]) ∧ Below W.heap.size W w') := fun W hW => by
                      have := at_at f HFT.out.1 W (by rw [HLI.out]; omega) (HBR.out W hW)
                      rw [HASD.out, show atB L f = false from decide_eq_false (by rw [HLI.out]; omega)] at this
                      exact this
                    have HA0 : Hid (az = sl0) := by
                      show az = sl0
                      rw [← HASD.out]
                      exact if_neg (by rw [HLI.out]; omega)
                    have heqa : ∀ W, (Op.equalIn 10000 50 (.agg (slC az)) (.agg (slC sl0))).run Try.prog W = .ok true W := fun W => by
                      have := eq_slot az sl0 W
                      rw [decide_eq_true HA0.out] at this
                      exact this
                    go_wp2_with fail
                    refine (HATF.out wr hbR).mono ?_
                    rintro e wt ⟨rfl, hbt⟩
                    have hbT0 : Below w5.heap.size w5 wt := hbR.trans (hbt.mono hbR.size)
                    clear hbt
                    have p0 := Blk.new wt 50 (slC sl0)
                    have p1 := p0.set (slC az)
                    have hbT : Below w5.heap.size w5 ((wt.alloc (.cells (slC sl0) 50)).setRow wt.heap.size (slC az)) := below_setRow (hbT0.alloc hbT0.size _) hbT0.size _
                    go_wp2_with (first
                      | (refine wpList_store_row (by rfl) 50 _ _ (by rfl) (wt.heap.size) (slC az) (by rfl) (by rfl) 50 (slC sl0) (by exact p0) (sizeSlot.trans (by rw [slC_size])) (by simp only [slC_size]) (slC_all _) ?_; simp only [Act.put, List.setIfInBounds_toArray, List.set_cons_zero, List.set_cons_succ])
                      | (refine wpList_load_rowg (by rfl) 50 _ (by rfl) (wt.heap.size) (by rfl) 50 (slC az) (0, 0) _ (by exact p1) Try.underlying50 (by rfl) (sizeSlot.trans (by rw [slC_size])) ?_; simp only [Act.put, List.setIfInBounds_toArray, List.set_cons_zero, List.set_cons_succ])
                      | (refine wpList_build_at (by rfl) 48 _ (by rfl) [(0, .int .u32 6)] (by rfl) (va 33 (rfF 6 (Vector.replicate 32 0))) (built_ref1 6) ?_; simp only [Act.put, List.setIfInBounds_toArray, List.set_cons_zero, List.set_cons_succ])
                      | (refine wpList_build2 (by rfl) 50 _ _ (by rfl) (.int .u64 (f : Int)) (.agg (va 33 (rfF 6 (Vector.replicate 32 0)))) (by rfl) (by rfl) (slC sf) (by exact hbs2.out) ?_; simp only [Act.put, List.setIfInBounds_toArray, List.set_cons_zero, List.set_cons_succ])
                      | fail)
                    clear p0
                    generalize ((wt.alloc (.cells (slC sl0) 50)).setRow wt.heap.size (slC az)) = wT at *
                    refine (HAGF.out wT hbT).mono ?_
                    rintro e wu ⟨rfl, hbu⟩
                    have pU := p1.below hbu p1.lt
                    have hbU : Below w5.heap.size w5 wu := hbT.trans (hbu.mono hbT.size)
                    clear hbu p1 hbT
                    go_wp2_with fail
                    refine (HATN.out wu).mono ?_
                    rintro e wv ⟨rfl, hbv⟩
                    have pV := pU.below hbv pU.lt
                    have hbV0 : Below w5.heap.size w5 wv := hbU.trans (hbv.mono hbU.size)
                    clear hbv pU hbU
                    have qV := pV.set (slC sl0)
                    have hbV : Below w5.heap.size w5 (wv.setRow wt.heap.size (slC sl0)) := below_setRow hbV0 hbT0.size _
                    go_wp2_with (first
                      | (refine wpList_store_row (by rfl) 50 _ _ (by rfl) (wt.heap.size) (slC sl0) (by rfl) (by rfl) 50 (slC az) (by exact pV) (sizeSlot.trans (by rw [slC_size])) (by simp only [slC_size]) (slC_all _) ?_; simp only [Act.put, List.setIfInBounds_toArray, List.set_cons_zero, List.set_cons_succ])
                      | fail)
                    clear pV hbV0
                    generalize (wv.setRow wt.heap.size (slC sl0)) = wV at *
                    refine (HAGN.out wV).mono ?_
                    rintro e wy ⟨rfl, hby⟩
                    have qY := qV.below hby qV.lt
                    have hbY : Below w5.heap.size w5 wy := hbV.trans (hby.mono hbV.size)
                    clear hby qV hbV
                    go_wp2_with (first
                      | (refine wpList_load_rowg (by rfl) 50 _ (by rfl) (wt.heap.size) (by rfl) 50 (slC sl0) (0, 0) _ (by exact qY) Try.underlying50 (by rfl) (sizeSlot.trans (by rw [slC_size])) ?_; simp only [Act.put, List.setIfInBounds_toArray, List.set_cons_zero, List.set_cons_succ])
                      | fail)
                    refine (HBTN.out wy).mono ?_
                    rintro e _ ⟨rfl, rfl⟩
                    go_wp2_with fail
                    go_ret
                    exact ⟨rfl, HBW.out.trans (hbY.mono HBW.out.size)⟩
                · have b1 : ¬ (1 : Int) ≤ (f : Int) := by omega
                  have HATF : Hid (∀ W, Below w5.heap.size w5 W → Calls Try.prog 33 #[.pointer (some ⟨r, 0, none⟩), .int .u64 (f : Int)] W fun e w' => e = .returned (.tuple #[.agg (slC az), .bool false]) ∧ Below W.heap.size W w') := fun W hW => by
                    have := at_at f HFT.out.1 W (by rw [HLI.out]; omega) (HBR.out W hW)
                    rw [HASD.out, show atB L f = false from decide_eq_false (by rw [HLI.out]; omega)] at this
                    exact this
                  have HA0 : Hid (az = sl0) := by
                    show az = sl0
                    rw [← HASD.out]
                    exact if_neg (by rw [HLI.out]; omega)
                  have heqa : ∀ W, (Op.equalIn 10000 50 (.agg (slC az)) (.agg (slC sl0))).run Try.prog W = .ok true W := fun W => by
                    have := eq_slot az sl0 W
                    rw [decide_eq_true HA0.out] at this
                    exact this
                  go_wp2_with fail
                  refine (HATF.out wr hbR).mono ?_
                  rintro e wt ⟨rfl, hbt⟩
                  have hbT0 : Below w5.heap.size w5 wt := hbR.trans (hbt.mono hbR.size)
                  clear hbt
                  have p0 := Blk.new wt 50 (slC sl0)
                  have p1 := p0.set (slC az)
                  have hbT : Below w5.heap.size w5 ((wt.alloc (.cells (slC sl0) 50)).setRow wt.heap.size (slC az)) := below_setRow (hbT0.alloc hbT0.size _) hbT0.size _
                  go_wp2_with (first
                    | (refine wpList_store_row (by rfl) 50 _ _ (by rfl) (wt.heap.size) (slC az) (by rfl) (by rfl) 50 (slC sl0) (by exact p0) (sizeSlot.trans (by rw [slC_size])) (by simp only [slC_size]) (slC_all _) ?_; simp only [Act.put, List.setIfInBounds_toArray, List.set_cons_zero, List.set_cons_succ])
                    | (refine wpList_load_rowg (by rfl) 50 _ (by rfl) (wt.heap.size) (by rfl) 50 (slC az) (0, 0) _ (by exact p1) Try.underlying50 (by rfl) (sizeSlot.trans (by rw [slC_size])) ?_; simp only [Act.put, List.setIfInBounds_toArray, List.set_cons_zero, List.set_cons_succ])
                    | (refine wpList_build_at (by rfl) 48 _ (by rfl) [(0, .int .u32 6)] (by rfl) (va 33 (rfF 6 (Vector.replicate 32 0))) (built_ref1 6) ?_; simp only [Act.put, List.setIfInBounds_toArray, List.set_cons_zero, List.set_cons_succ])
                    | (refine wpList_build2 (by rfl) 50 _ _ (by rfl) (.int .u64 (f : Int)) (.agg (va 33 (rfF 6 (Vector.replicate 32 0)))) (by rfl) (by rfl) (slC sf) (by exact hbs2.out) ?_; simp only [Act.put, List.setIfInBounds_toArray, List.set_cons_zero, List.set_cons_succ])
                    | fail)
                  clear p0
                  generalize ((wt.alloc (.cells (slC sl0) 50)).setRow wt.heap.size (slC az)) = wT at *
                  refine (HAGF.out wT hbT).mono ?_
                  rintro e wu ⟨rfl, hbu⟩
                  have pU := p1.below hbu p1.lt
                  have hbU : Below w5.heap.size w5 wu := hbT.trans (hbu.mono hbT.size)
                  clear hbu p1 hbT
                  go_wp2_with fail
                  refine (HATN.out wu).mono ?_
                  rintro e wv ⟨rfl, hbv⟩
                  have pV := pU.below hbv pU.lt
                  have hbV0 : Below w5.heap.size w5 wv := hbU.trans (hbv.mono hbU.size)
                  clear hbv pU hbU
                  have qV := pV.set (slC sl0)
                  have hbV : Below w5.heap.size w5 (wv.setRow wt.heap.size (slC sl0)) := below_setRow hbV0 hbT0.size _
                  go_wp2_with (first
                    | (refine wpList_store_row (by rfl) 50 _ _ (by rfl) (wt.heap.size) (slC sl0) (by rfl) (by rfl) 50 (slC az) (by exact pV) (sizeSlot.trans (by rw [slC_size])) (by simp only [slC_size]) (slC_all _) ?_; simp only [Act.put, List.setIfInBounds_toArray, List.set_cons_zero, List.set_cons_succ])
                    | fail)
                  clear pV hbV0
                  generalize (wv.setRow wt.heap.size (slC sl0)) = wV at *
                  refine (HAGN.out wV).mono ?_
                  rintro e wy ⟨rfl, hby⟩
                  have qY := qV.below hby qV.lt
                  have hbY : Below w5.heap.size w5 wy := hbV.trans (hby.mono hbV.size)
                  clear hby qV hbV
                  go_wp2_with (first
                    | (refine wpList_load_rowg (by rfl) 50 _ (by rfl) (wt.heap.size) (by rfl) 50 (slC sl0) (0, 0) _ (by exact qY) Try.underlying50 (by rfl) (sizeSlot.trans (by rw [slC_size])) ?_; simp only [Act.put, List.setIfInBounds_toArray, List.set_cons_zero, List.set_cons_succ])
                    | fail)
                  refine (HBTN.out wy).mono ?_
                  rintro e _ ⟨rfl, rfl⟩
                  go_wp2_with fail
                  go_ret
                  exact ⟨rfl, HBW.out.trans (hbY.mono HBW.out.size)⟩
end Go.Proofs.Ytlmbokfgogkbmaa
