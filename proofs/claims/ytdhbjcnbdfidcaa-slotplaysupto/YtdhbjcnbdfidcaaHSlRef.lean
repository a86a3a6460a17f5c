/- The document's bytes of a slot: contracts of the verifier's functions given, Encode and Decode. -/
import Derived.Test.YtdhbjcnbdfidcaaHSlAwake
import Derived.Handy
import Derived.BigQuiet
import Derived.Deep.QuietTactic

namespace Go.Proofs.Ytdhbjcnbdfidcaa
open Go Go.RowKit
set_option linter.unusedSimpArgs false
set_option linter.unusedVariables false

/-- a struct of two parts -/
theorem wpList_build2 {P : Program} {ops : Array Oper} {rest : List Oper} {o : Oper} {a : Act} {w : World} {Q : Exit → Act → World → Prop} (hg : o.guard = none) (t : TypeId) (x y : Operand) (ho : o.op = .build t #[(0, x), (1, y)]) (vx vy : Value) (hx : a.eval x = vx) (hy : a.eval y = vy)
    (cells : Array Value) (hf : P.built t [(0, vx), (1, vy)] = some cells) (h : wpList P ops Q rest (a.put o.dst (.agg cells)) w) : wpList P ops Q (o :: rest) a w := by
  refine wpList_buildTo hg t _ ho o.dst rfl cells ?_ h
  have e : (Array.map (fun (x : Nat × Operand) => match x with | (i, x) => (i, a.eval x)) #[(0, x), (1, y)]).toList = [(0, vx), (1, vy)] := by simp [hx, hy]
  rw [e]
  exact hf
/-- a slice of digests, as it came in -/
def IsSums (w : World) (a : Option Addr) (n : Nat) (D : Nat → Vector Nat 32) : Prop :=
  ∀ i, i < n → ∃ b o, a = some ⟨b, o, none⟩ ∧ b < w.heap.size ∧ w.rangeAt b (o + i * 32) ((List.range 32).map (iv .u8 (dF (D i)))) ∧ ∀ j, j < 32 → dF (D i) j < 256
theorem sums_range {w w' : World} {b o i B : Nat} {d : Vector Nat 32} (h : w.rangeAt b (o + i * 32) ((List.range 32).map (iv .u8 (dF d)))) (hb : b < B) (hw : Below B w w') : w'.rangeAt b (o + i * 32) ((List.range 32).map (iv .u8 (dF d))) := fun j v hv => by
  have := h j v hv
  have hblk := hw.block b hb
  rw [← this]
  simp [World.cell?, hblk]
/-- a slot that may be written, or the zero one -/
def GoodS (s : Sl) : Prop := s.1 < 18446744073709551616 ∧ s.2.1 < 4294967296 ∧ (∀ i, i < 32 → dF s.2.2 i < 256) ∧ (s.2.1 = 0 → s = sl0)
theorem good_sl0 : GoodS sl0 := ⟨by decide, by decide, fun i hi => by
  show dF (Vector.replicate 32 0) i < 256
  unfold dF
  simp [hi], fun _ => rfl⟩
theorem horn_dig (x : Nat) : ∀ k, hornN (dig x) 0 k = x % 256 ^ k
  | 0 => by simp [hornN, Nat.mod_one]
  | k + 1 => by
    rw [hornN_up, horn_dig x k, Nat.zero_add, Nat.pow_succ, Nat.mod_mul]
    unfold dig
    rw [Nat.mul_comm]
theorem dec_enc (s : Sl) (h : GoodS s) : decA (strN (encF s) 44) = (s, 0) := by
  obtain ⟨h1, h2, h3, h4⟩ := h
  have ht : ∀ j, j < 44 → tbyte (strN (encF s) 44) j = encF s j := fun j hj => strN_at _ _ j hj (encF_lt s h3 j hj)
  have e1 : hornN (tbyte (strN (encF s) 44)) 0 8 = s.1 := by
    rw [hornN_congr (g' := dig s.1) 8 0 0 fun i hi => by
      rw [Nat.zero_add, ht i (by omega)]
      unfold encF layB
      rw [if_pos (by omega), if_pos (by omega), if_neg (by omega), Nat.sub_zero], horn_dig]
    exact Nat.mod_eq_of_lt h1
  have e2 : hornN (tbyte (strN (encF s) 44)) 8 4 = s.2.1 := by
    rw [hornN_congr (g' := dig s.2.1) 4 8 0 fun i hi => by
      rw [Nat.zero_add, ht (8 + i) (by omega)]
      unfold encF layB
      rw [if_pos (by omega), if_neg (by omega), show 8 + i - 8 = i by omega], horn_dig]
    exact Nat.mod_eq_of_lt h2
  have e3 : (sumD fun i => tbyte (strN (encF s) 44) (12 + i)) = s.2.2 := dF_inj fun i hi => by
    rw [dF_sumD _ _ hi, ht (12 + i) (by omega)]
    unfold encF
    rw [if_neg (by omega), show 12 + i - 12 = i by omega]
  have e : decS (strN (encF s) 44) = s := by
    unfold decS
    rw [e1, e2, e3]
  unfold decA
  rw [e, if_pos ⟨strN_size _ _, fun h => h.2 (h4 h.1)⟩]
/-- counters 1, 2, 3 .. -/
def Cnt (L : List Sl) : Prop := ∀ i s, L[i]? = some s → s.1 = i + 1
theorem Cnt.nil : Cnt [] := fun i s h => by simp at h
theorem Cnt.last {L : List Sl} (h : Cnt L) : (lastS L).1 = L.length := by
  rcases Nat.eq_zero_or_pos L.length with h0 | h0
  · have : L = [] := List.length_eq_zero_iff.1 h0
    subst this
    rfl
  · have := h _ _ (lastS_at L h0)
    omega
theorem Cnt.snoc {L : List Sl} (h : Cnt L) (s : Sl) (hs : s.1 = L.length + 1) : Cnt (L ++ [s]) := fun i t ht => by
  rcases Nat.lt_or_ge i L.length with h1 | h1
  · rw [List.getElem?_append_left h1] at ht
    exact h i t ht
  · rw [List.getElem?_append_right h1] at ht
    rcases Nat.eq_or_lt_of_le h1 with h2 | h2
    · subst h2
      simp at ht
      subst ht
      exact hs
    · rw [List.getElem?_eq_none (by simp; omega)] at ht
      cases ht
theorem Cnt.fresh {L : List Sl} (h : Cnt L) (s : Sl) (hs : L.length < s.1) : s ∉ L := fun hm => by
  obtain ⟨i, hi, e⟩ := List.getElem_of_mem hm
  have := h i s (by rw [List.getElem?_eq_getElem hi, e])
  omega
section
variable {B g N k lg r m : Nat} {F : Nat → Nat} {q : QD} {C : List (Int × Bool)} {v : Value} {L : List Sl}
/-- the cuts behind one more -/
def cutMore (q : QD) (C : List (Int × Bool)) (e0 : Int) (f0 : Bool) : List (Int × Bool) := if e0 < q.ev ∨ 64 ≤ C.length then C else C ++ [(e0, f0)]
theorem rdCut (hC : C.length ≤ 64) {mm : Nat} {d0 : Bool} (hq : QuietC q.cu d0 q mm) (e0 : Int) (f0 : Bool) (w : World) (hB : B ≤ w.heap.size) (h : RD w B g N F k lg q C r m v L) :
    Calls Try.prog 8 #[.pointer (some ⟨g, 0, none⟩), .agg #[.int .i64 e0, .bool f0]] w fun e w' => e = .returned (.tuple #[]) ∧ ∃ q', RD w' B g N F k lg q' (cutMore q C e0 f0) r m v L ∧ QuietC q'.cu d0 q' mm ∧ q'.ev = q.ev ∧ Turns (footC g N q) w w' ∧ ∀ b, footC g N q' b → footC g N q b ∨ w.heap.size ≤ b := by
  unfold cutMore
  by_cases hn : e0 < q.ev ∨ 64 ≤ C.length
  · rw [if_pos hn]
    refine (cut_none C hC e0 f0 hn w h.d h.c).mono ?_
    rintro e w' ⟨rfl, hb⟩
    exact ⟨rfl, q, h.below hb, hq, rfl, .of_below hb, fun b hb => .inl hb⟩
  · rw [if_neg hn]
    refine (cut_more C e0 f0 (fun h1 => hn (.inl h1)) (by omega) w hB h.d h.c).mono ?_
    rintro e w' ⟨rfl, v1, h1, h2, h3⟩
    refine ⟨rfl, _, ⟨h1, h2, h.reg.kept fun b hb => h3.1.block b (h.reg.foots b hb).2 fun hf => ?_, fun b hb hf => h.ap b hb hf⟩, ?_, rfl, h3.1, h3.2⟩
    · rcases hf with e | e
      · exact h.ap b hb e
      · exact h.cutsR b e hb
    · obtain ⟨a1, a2, a3, a4, a5, a6⟩ := hq
      exact ⟨a1, a2, rfl, a4, a5, a6⟩
theorem cutMore_len (q : QD) (C : List (Int × Bool)) (e0 : Int) (f0 : Bool) (h : C.length ≤ 64) : (cutMore q C e0 f0).length ≤ 64 := by
  unfold cutMore
  split
  · exact h
  · rw [List.length_append]
    simp
    omega
theorem RD.lowC {w w' : World} (h : RD w B g N F k lg q C r m v L) (hB : B ≤ w.heap.size) (hT : Turns (footC g N q) w w') : Below B w w' := hT.below hB fun b hb => by
  rcases hb with e | e
  · exact (h.d.foots b e).1
  · exact (h.c.lt b e).1
/-- a slot beside the two is written over -/
theorem RD.setRow {w : World} (h : RD w B g N F k lg q C r m v L) {b : Nat} {cs : Array Value} (hb : Blk w b 50 cs) (hn : ¬ rdfoot g N q r m v b) (ds : Array Value) : RD (w.setRow b ds) B g N F k lg q C r m v L :=
  ⟨h.d.kept fun z hz => setRow_other w b z _ fun e => hn (e ▸ .inl hz), own_block h.c fun z hz => setRow_other w b z _ fun e => own_ne h.c hb (by decide) (e ▸ hz), h.reg.kept fun z hz => setRow_other w b z _ fun e => hn (e ▸ .inr hz), h.ap⟩
/-- the power comes back -/
theorem rdRevive {mm : Nat} {d0 : Bool} (hq : QuietC q.cu d0 q mm) (w : World) (h : RD w B g N F k lg q C r m v L) :
    Calls Try.prog 15 #[.pointer (some ⟨g, 0, none⟩)] w fun e w' => e = .returned (.tuple #[]) ∧ ∃ q', RD w' B g N F k lg q' C r m v L ∧ QuietC q'.cu false q' mm ∧ q'.ev = q.ev ∧ RDMoved g N q r m v q' v w w' := by
  refine (revive_c w h.d).mono ?_
  rintro e w' ⟨rfl, h1, h2⟩
  obtain ⟨a1, a2, a3, a4, a5, a6⟩ := hq
  exact ⟨rfl, _, h.doD h1 rfl h2, ⟨rfl, a2, rfl, a4, a5, a6⟩, rfl, .of_d h2⟩
end
end Go.Proofs.Ytdhbjcnbdfidcaa

namespace Go.Proofs.Ytdhbjcnbdfidcaa
open Go Go.RowKit
set_option linter.unusedSimpArgs false
set_option linter.unusedVariables false

/-- what the power does at an event -/
def evT (C : List (Int × Bool)) (e : Int) : Bool := !decide ((e, false) ∈ C)
def evD (C : List (Int × Bool)) (e : Int) : Bool := decide ((e, false) ∈ C) || decide ((e, true) ∈ C)
theorem evSize : (Try.prog.info? 52).map (·.size) = some 2 := by kernel_rfl
theorem zero_ev (w : World) : (zeroValue 52).run Try.prog w = .ok (.agg #[.bool false, .bool false]) w := by
  have h : (Try.prog.info? 52).bind (·.zero) = some (.agg #[.bool false, .bool false]) := by kernel_rfl
  cases hq : Try.prog.info? 52 with
  | none => simp [hq] at h
  | some i =>
    have hi : i.zero = some (.agg #[.bool false, .bool false]) := by simpa [hq] using h
    simp [zeroValue, typeInfo, hq, hi]
set_option maxRecDepth 100000 in
set_option maxHeartbeats 4000000 in
theorem at_any (B : Nat) (a : Option Addr) (cap : Nat) (L : List (Int × Bool)) (hL : L.length ≤ 64) (e0 : Int) (w : World) (h : CutsAt w B (.slice a L.length cap) L) :
    Calls Try.prog 10 #[.slice a L.length cap, .int .i64 e0] w fun e w' => e = .returned (.agg #[.bool (evT L e0), .bool (evD L e0)]) ∧ Below w.heap.size w w' := by
  have HC : Hid (CutsAt w B (.slice a L.length cap) L) := h
  clear h
  have hz := zero_ev
  have b0 : Blk ((w.alloc (.cells #[.bool false, .bool false] 52)).alloc (.cells #[.bool true, .bool false] 52)) w.heap.size 52 #[.bool false, .bool false] := (Blk.new _ _ _).alloc _
  have b1 : Blk ((w.alloc (.cells #[.bool false, .bool false] 52)).alloc (.cells #[.bool true, .bool false] 52)) (w.heap.size + 1) 52 #[.bool true, .bool false] := Blk.new1 _ _ _ _
  have hb : Below w.heap.size w ((w.alloc (.cells #[.bool false, .bool false] 52)).alloc (.cells #[.bool true, .bool false] 52)) := below_new2 _ _ _
  have hs : ((w.alloc (.cells #[.bool false, .bool false] 52)).alloc (.cells #[.bool true, .bool false] 52)).heap.size = w.heap.size + 2 := by simp
  go_enter Try.func10, Try.ntmps10
  go_wp2_with fail
  generalize ((w.alloc (.cells #[.bool false, .bool false] 52)).alloc (.cells #[.bool true, .bool false] 52)) = w1 at *
  go_loopw [11] (fun i wr => ∃ (k : Nat) (d : Bool), k ≤ L.length ∧ i = .int .i64 (k : Int) ∧ (∀ j, j < k → L[j]? ≠ some (e0, false)) ∧ (d = true ↔ (e0, true) ∈ L.take k) ∧ Blk wr w.heap.size 52 #[.bool false, .bool false] ∧ Blk wr (w.heap.size + 1) 52 #[.bool true, .bool d] ∧ Below w.heap.size w wr ∧ w.heap.size + 2 ≤ wr.heap.size) (fun i _ => L.length - (intOf i).toNat)
  case atStart => exact ⟨0, false, by omega, rfl, fun j hj => by omega, by simp, b0, b1, hb, by omega⟩
  case round =>
    clear b0 b1 hb hs
    obtain ⟨k, d, hk, rfl, hno, hdd, b0, b1, hb, hs⟩ := hrel
    have HN : Hid (∀ j, j < k → L[j]? ≠ some (e0, false)) := hno
    have HDD : Hid (d = true ↔ (e0, true) ∈ L.take k) := hdd
    clear hno hdd
    by_cases hlt : k < L.length
    · obtain ⟨gc, cc, hv, hgc, hgl⟩ := kown_form HC.out (by omega)
      injection hv with hv1 _ hv2
      subst hv1 hv2
      obtain ⟨⟨c1, c2⟩, hc⟩ : ∃ c, L[k]? = some c := ⟨_, List.getElem?_eq_getElem hlt⟩
      obtain ⟨q0, q1⟩ := cutCells_at L k _ hc
      have hl2 := cutCells_length L
      have hd : CutsAt wr B (.slice (some ⟨gc, 0, none⟩) L.length cap) L := kown_below HC.out hb
      have x0 : wr.cell? ⟨gc, k * 2, none⟩ = some (.int .i64 c1) := by
        rw [hd.cellAt (g := gc) (k * 2) (by omega)]
        exact q0
      have x1 : wr.cell? ⟨gc, k * 2 + 1, none⟩ = some (.bool c2) := by
        rw [hd.cellAt (g := gc) (k * 2 + 1) (by omega)]
        exact q1
      have k0 : (0 : Int) ≤ (k : Int) := by omega
      have k1 : (k : Int) < (L.length : Int) := by omega
      have HT : Hid (L.take (k + 1) = L.take k ++ [(c1, c2)]) := by
        show _ = _
        rw [List.take_add_one, hc]
        rfl
      have HCK : Hid (L[k]? = some (c1, c2)) := hc
      have p0 : Blk (wr.alloc (.cells #[.int .i64 c1, .bool c2] 41)) w.heap.size 52 #[.bool false, .bool false] := b0.alloc _
      have p1 : Blk (wr.alloc (.cells #[.int .i64 c1, .bool c2] 41)) (w.heap.size + 1) 52 #[.bool true, .bool d] := b1.alloc _
      have hbp : Below w.heap.size w (wr.alloc (.cells #[.int .i64 c1, .bool c2] 41)) := hb.alloc (by omega) _
      have hsp : (wr.alloc (.cells #[.int .i64 c1, .bool c2] 41)).heap.size = wr.heap.size + 1 := by simp
      clear q0 q1 hd hc hl2
      by_cases he : c1 = e0
      · cases c2
        · subst he
          have HM : Hid ((c1, false) ∈ L) := List.mem_of_getElem? HCK.out
          have y0 : (wr.alloc (.cells #[.int .i64 c1, .bool false] 41)).cell? ⟨w.heap.size, 0, none⟩ = some (.bool false) := by
            rw [p0.cell]
            rfl
          have g0 : (wr.alloc (.cells #[.int .i64 c1, .bool false] 41)).frozen? ⟨w.heap.size, 0, none⟩ = false := p0.frozen 0
          have m1 : Blk ((wr.alloc (.cells #[.int .i64 c1, .bool false] 41)).setCell ⟨w.heap.size, 0, none⟩ (.bool false)) w.heap.size 52 #[.bool false, .bool false] := p0.put 0 _
          have y1 : ((wr.alloc (.cells #[.int .i64 c1, .bool false] 41)).setCell ⟨w.heap.size, 0, none⟩ (.bool false)).cell? ⟨w.heap.size, 1, none⟩ = some (.bool false) := by
            rw [m1.cell]
            rfl
          have g1 : ((wr.alloc (.cells #[.int .i64 c1, .bool false] 41)).setCell ⟨w.heap.size, 0, none⟩ (.bool false)).frozen? ⟨w.heap.size, 1, none⟩ = false := m1.frozen 1
          have m2 : Blk (((wr.alloc (.cells #[.int .i64 c1, .bool false] 41)).setCell ⟨w.heap.size, 0, none⟩ (.bool false)).setCell ⟨w.heap.size, 1, none⟩ (.bool true)) w.heap.size 52 #[.bool false, .bool true] := m1.put 1 _
          have hbm : Below w.heap.size w (((wr.alloc (.cells #[.int .i64 c1, .bool false] 41)).setCell ⟨w.heap.size, 0, none⟩ (.bool false)).setCell ⟨w.heap.size, 1, none⟩ (.bool true)) := (hbp.setCell (by show w.heap.size ≤ w.heap.size; omega) _).setCell (by show w.heap.size ≤ w.heap.size; omega) _
          clear m1
          go_wp2_with fail
          try simp only [Exit.inBlock, Exit.then]
          refine bodyPost_ret (results_cell_row Try.results10 _ _ (w.heap.size) 52 (#[.bool false, .bool true]) (0, 0) _ rfl m2 Try.underlying52 rfl evSize) rfl ?_
          refine ⟨?_, hbm⟩
          unfold evT evD
          rw [decide_eq_true HM.out]
          rfl
        · subst he
          have f1 : (wr.alloc (.cells #[.int .i64 c1, .bool true] 41)).frozen? ⟨w.heap.size + 1, 1, none⟩ = false := p1.frozen 1
          have d1 : (wr.alloc (.cells #[.int .i64 c1, .bool true] 41)).cell? ⟨w.heap.size + 1, 1, none⟩ = some (.bool d) := by
            rw [p1.cell]
            rfl
          have n0 : Blk ((wr.alloc (.cells #[.int .i64 c1, .bool true] 41)).setCell ⟨w.heap.size + 1, 1, none⟩ (.bool true)) w.heap.size 52 #[.bool false, .bool false] := p0.put_other _ _ (by omega)
          have n1 : Blk ((wr.alloc (.cells #[.int .i64 c1, .bool true] 41)).setCell ⟨w.heap.size + 1, 1, none⟩ (.bool true)) (w.heap.size + 1) 52 #[.bool true, .bool true] := p1.put 1 _
          have hbn : Below w.heap.size w ((wr.alloc (.cells #[.int .i64 c1, .bool true] 41)).setCell ⟨w.heap.size + 1, 1, none⟩ (.bool true)) := hbp.setCell (by show w.heap.size ≤ w.heap.size + 1; omega) _
          have hsn : ((wr.alloc (.cells #[.int .i64 c1, .bool true] 41)).setCell ⟨w.heap.size + 1, 1, none⟩ (.bool true)).heap.size = wr.heap.size + 1 := by rw [World.size_setCell]; exact hsp
          go_wp2_with fail
          refine ⟨⟨k + 1, true, by omega, by simp, fun j hj => ?_, ?_, n0, n1, hbn, by omega⟩, ?_⟩
          · by_cases hjk : j = k
            · subst hjk
              rw [HCK.out]
              intro hx
              injection hx with hx
              injection hx with hx1 hx2
              cases hx2
            · exact HN.out j (by omega)
          · rw [HT.out]
            simp
          · simp [intOf]
            omega
      · have he' : (c1 == e0) = false := by simpa using he
        go_wp2_with fail
        refine ⟨⟨k + 1, d, by omega, by simp, fun j hj => ?_, ?_, p0, p1, hbp, by omega⟩, ?_⟩
        · by_cases hjk : j = k
          · subst hjk
            rw [HCK.out]
            intro hx
            injection hx with hx
            injection hx with hx
            exact he hx
          · exact HN.out j (by omega)
        · rw [HT.out, List.mem_append, ← HDD.out]
          constructor
          · exact .inl
          · rintro (hx | hx)
            · exact hx
            · simp at hx
              exact absurd hx.1.symm he
        · simp [intOf]
          omega
    · have e : k = L.length := by omega
      subst e
      have HF : Hid ((e0, false) ∉ L) := fun hm => by
        obtain ⟨j, hj⟩ := List.getElem?_of_mem hm
        exact HN.out j (List.getElem?_eq_some_iff.1 hj).1 hj
      have HD2 : Hid (d = decide ((e0, true) ∈ L)) := by
        have := HDD.out
        rw [List.take_length] at this
        show d = _
        cases d
        · exact (decide_eq_false fun hm => by have := this.2 hm; cases this).symm
        · exact (decide_eq_true (this.1 rfl)).symm
      clear HN HDD
      have z0 : wr.cell? ⟨w.heap.size + 1, 0, none⟩ = some (.bool true) := by
        rw [b1.cell]
        rfl
      have z1 : wr.cell? ⟨w.heap.size + 1, 1, none⟩ = some (.bool d) := by
        rw [b1.cell]
        rfl
      have y0 : wr.cell? ⟨w.heap.size, 0, none⟩ = some (.bool false) := by
        rw [b0.cell]
        rfl
      have g0 : wr.frozen? ⟨w.heap.size, 0, none⟩ = false := b0.frozen 0
      have m1 : Blk (wr.setCell ⟨w.heap.size, 0, none⟩ (.bool true)) w.heap.size 52 #[.bool true, .bool false] := b0.put 0 _
      have y1 : (wr.setCell ⟨w.heap.size, 0, none⟩ (.bool true)).cell? ⟨w.heap.size, 1, none⟩ = some (.bool false) := by
        rw [m1.cell]
        rfl
      have g1 : (wr.setCell ⟨w.heap.size, 0, none⟩ (.bool true)).frozen? ⟨w.heap.size, 1, none⟩ = false := m1.frozen 1
      have m2 : Blk ((wr.setCell ⟨w.heap.size, 0, none⟩ (.bool true)).setCell ⟨w.heap.size, 1, none⟩ (.bool d)) w.heap.size 52 #[.bool true, .bool d] := m1.put 1 _
      have hbm : Below w.heap.size w ((wr.setCell ⟨w.heap.size, 0, none⟩ (.bool true)).setCell ⟨w.heap.size, 1, none⟩ (.bool d)) := (hb.setCell (by show w.heap.size ≤ w.heap.size; omega) _).setCell (by show w.heap.size ≤ w.heap.size; omega) _
      clear m1
      go_wp2_with fail
      try simp only [Exit.inBlock, Exit.then]
      refine bodyPost_ret (results_cell_row Try.results10 _ _ (w.heap.size) 52 (#[.bool true, .bool d]) (0, 0) _ rfl m2 Try.underlying52 rfl evSize) rfl ?_
      refine ⟨?_, hbm⟩
      unfold evT evD
      rw [decide_eq_false HF.out, HD2.out]
      rfl
/-- a slice of cuts, as it came in -/
def IsCuts (w : World) (a : Option Addr) (n : Nat) (D : Nat → Int × Bool) : Prop :=
  ∀ i, i < n → ∃ b o, a = some ⟨b, o, none⟩ ∧ b < w.heap.size ∧ w.cell? ⟨b, o + i * 2, none⟩ = some (.int .i64 (D i).1) ∧ w.cell? ⟨b, o + i * 2 + 1, none⟩ = some (.bool (D i).2)
theorem IsCuts.below {w w' : World} {a : Option Addr} {n : Nat} {D : Nat → Int × Bool} (h : IsCuts w a n D) {B : Nat} (hb : Below B w w') (hB : ∀ b o, a = some ⟨b, o, none⟩ → b < B) : IsCuts w' a n D := fun i hi => by
  obtain ⟨b, o, ha, hlt, h0, h1⟩ := h i hi
  have hblk := hb.block b (hB b o ha)
  refine ⟨b, o, ha, Nat.lt_of_lt_of_le hlt hb.size, ?_, ?_⟩
  · rw [← h0]
    simp [World.cell?, hblk]
  · rw [← h1]
    simp [World.cell?, hblk]
/-- the first cuts, as many as a disk takes -/
def fewL (D : Nat → Int × Bool) : Nat → List (Int × Bool)
  | 0 => []
  | k + 1 => if 0 ≤ (D k).1 ∧ (fewL D k).length < 64 then fewL D k ++ [D k] else fewL D k
theorem fewL_len (D : Nat → Int × Bool) : ∀ k, (fewL D k).length ≤ 64
  | 0 => by simp [fewL]
  | k + 1 => by
    have := fewL_len D k
    unfold fewL
    split
    · rw [List.length_append]
      simp
      omega
    · exact this
theorem cutCells_snoc (L : List (Int × Bool)) (c : Int × Bool) : cutCells (L ++ [c]) = cutCells L ++ [.int .i64 c.1, .bool c.2] := by
  unfold cutCells
  rw [List.flatMap_append]
  simp
set_option maxRecDepth 100000 in
set_option maxHeartbeats 4000000 in
theorem few_any (a : Option Addr) (n cap : Nat) (D : Nat → Int × Bool) (hn : n ≤ 9223372036854775807) (w : World) (h : IsCuts w a n D) :
    Calls Try.prog 9 #[.slice a n cap] w fun e w' => ∃ a' c', e = .returned (.slice a' (fewL D n).length c') ∧ CutsAt w' w.heap.size (.slice a' (fewL D n).length c') (fewL D n) ∧ Below w.heap.size w w' := by
  obtain ⟨i0, hi, hz0, hz1, hz2⟩ := info_parts infoCut
  have HI : Hid (IsCuts w a n D) := h
  have HB : Hid (∀ b o, n ≠ 0 → a = some ⟨b, o, none⟩ → b < w.heap.size) := fun b o h0 ha => by
    obtain ⟨b', o', ha', hlt, _⟩ := h 0 (by omega)
    rw [ha] at ha'
    injection ha' with ha'
    injection ha' with h1
    omega
  clear h
  have b0 : Blk (w.alloc (.cells #[] 41)) w.heap.size 41 #[] := Blk.new _ _ _
  have hb : Below w.heap.size w (w.alloc (.cells #[] 41)) := below_new1 _ _
  go_enter Try.func9, Try.ntmps9
  go_wp2_with fail
  generalize (w.alloc (.cells #[] 41)) = w1 at *
  go_loopw [3, 9] (fun v i wr => ∃ (k : Nat) (a' : Option Addr) (c' : Nat), k ≤ n ∧ i = .int .i64 (k : Int) ∧ v = .slice a' (fewL D k).length c' ∧ CutsAt wr w.heap.size v (fewL D k) ∧ Below w.heap.size w wr) (fun _ i _ => n - (intOf i).toNat)
  case atStart => exact ⟨0, some ⟨w.heap.size, 0, none⟩, 0, by omega, rfl, rfl, kown_empty b0 (Nat.le_refl _), hb⟩
  case round =>
    clear b0 hb
    obtain ⟨k, a', c', hk, rfl, rfl, hown, hb⟩ := hrel
    have hws := hb.size
    by_cases hlt : k < n
    · obtain ⟨b, o, ha, hbl, y0, y1⟩ := (HI.out.below hb fun b o hab => HB.out b o (by omega) hab) k hlt
      have hbw := HB.out b o (by omega) ha
      subst ha
      have k0 : (0 : Int) ≤ (k : Int) := by omega
      have k1 : (k : Int) < (n : Int) := by omega
      have HO : Hid (CutsAt wr w.heap.size (.slice a' (fewL D k).length c') (fewL D k)) := hown
      have hlen := fewL_len D k
      have HF : Hid (fewL D (k + 1) = if 0 ≤ (D k).1 ∧ (fewL D k).length < 64 then fewL D k ++ [D k] else fewL D k) := rfl
      have hbc : Below w.heap.size w (wr.alloc (.cells #[.int .i64 (D k).1, .bool (D k).2] 41)) := hb.alloc hws _
      clear hown
      obtain ⟨c1, hc1⟩ : ∃ c1, c1 = (D k).1 := ⟨_, rfl⟩
      obtain ⟨c2, hc2⟩ : ∃ c2, c2 = (D k).2 := ⟨_, rfl⟩
      have HDK : Hid (D k = (c1, c2)) := by
        show D k = (c1, c2)
        rw [hc1, hc2]
      rw [← hc1] at y0
      rw [← hc2] at y1
      rw [← hc1, ← hc2] at hbc
      rw [← hc1] at HF
      clear hc1 hc2
      obtain ⟨m, hm⟩ : ∃ m, m = (fewL D k).length := ⟨_, rfl⟩
      have HM : Hid (m = (fewL D k).length) := hm
      rw [← hm] at HO HF hlen ⊢
      clear hm
      by_cases hc : 0 ≤ c1 ∧ m < 64
      · rw [if_pos hc] at HF
        have j0 : decide (0 ≤ c1) = true := decide_eq_true hc.1
        have j1 : decide ((m : Int) < 64) = true := decide_eq_true (by omega)
        have m0 : m < 64 := hc.2
        have HOD : Hid (CutsAt ((wr.alloc (.cells #[.int .i64 c1, .bool c2] 41)).alloc (.cells #[.int .i64 c1, .bool c2] 41)) w.heap.size (.slice a' m c') (fewL D k)) := kown_below HO.out (below_new2 _ _ _)
        have hown2 : ((wr.alloc (.cells #[.int .i64 c1, .bool c2] 41)).alloc (.cells #[.int .i64 c1, .bool c2] 41)).ownsRow w.heap.size 41 2 (.slice a' m c') m (cutCells (fewL D k)) := by
          have := HOD.out
          unfold CutsAt at this
          rw [← HM.out] at this
          exact this
        have HOW : Hid (((wr.alloc (.cells #[.int .i64 c1, .bool c2] 41)).alloc (.cells #[.int .i64 c1, .bool c2] 41)).ownsRow w.heap.size 41 2 (.slice a' m c') m (cutCells (fewL D k))) := hown2
        have HL : Hid (∀ k', (Value.slice a' m c').ownBlock = some k' → w.heap.size ≤ k' ∧ k' < wr.heap.size) := fun k' hk' => HO.out.lt k' hk'
        have HNC : Hid (∀ j u, [Value.int .i64 c1, .bool c2][j]? = some u → ((wr.alloc (.cells #[.int .i64 c1, .bool c2] 41)).alloc (.cells #[.int .i64 c1, .bool c2] 41)).cell? ((⟨wr.heap.size + 1, 0, none⟩ : Addr).add j) = some u) := fun j u hu => by
          have := cells_new (wr.alloc (.cells #[.int .i64 c1, .bool c2] 41)) #[.int .i64 c1, .bool c2] 41 j u hu
          rwa [show (wr.alloc (.cells #[.int .i64 c1, .bool c2] 41)).heap.size = wr.heap.size + 1 by simp] at this
        have hbd : Below w.heap.size w ((wr.alloc (.cells #[.int .i64 c1, .bool c2] 41)).alloc (.cells #[.int .i64 c1, .bool c2] 41)) := hbc.alloc (by simp; omega) _
        have hsd : ((wr.alloc (.cells #[.int .i64 c1, .bool c2] 41)).alloc (.cells #[.int .i64 c1, .bool c2] 41)).heap.size = wr.heap.size + 2 := by simp
        clear HOD hown2
        go_wp2_with (first
          | (at_builtin; refine wpList_append_own_at rfl _ _ 22 rfl (w.heap.size) 41 i0 (.agg #[.int .i64 0, .bool false]) 2 16 Try.underlying22 hi hz0 hz1 hz2 rfl (by decide) _ _ _ rfl HOW.out ⟨wr.heap.size + 1, 0, none⟩ 1 1 [.int .i64 c1, .bool c2] rfl rfl HNC.out (fun u hu => by simp at hu; rcases hu with rfl | rfl <;> rfl) (by unfold maxLen; omega) (by omega) (by omega) ?_)
          | go_in)
        intro v5 w5 ho5 hg5 _
        have hb5 : Below w.heap.size w w5 := hbd.grown hg5 (by omega) (fun k' hk' => (HL.out k' hk').1)
        obtain ⟨a5, c5, hv5⟩ := kown_slice ho5
        subst hv5
        have HO5 : Hid (CutsAt w5 w.heap.size (.slice a5 (fewL D (k + 1)).length c5) (fewL D (k + 1))) := by
          have e1 : (fewL D (k + 1)).length = m + 1 := by rw [HF.out, List.length_append, HM.out]; rfl
          show w5.ownsRow _ _ _ _ _ _
          rw [e1, HF.out, HDK.out, cutCells_snoc]
          exact ho5
        have e1 : Hid (m + 1 = (fewL D (k + 1)).length) := by
          show _ = _
          rw [HF.out, List.length_append, HM.out]
          rfl
        clear ho5 hg5 HOW HNC HL HO
        go_wp2_with fail
        refine ⟨⟨k + 1, a5, c5, by omega, by simp, by rw [e1.out], by rw [e1.out]; exact HO5.out, hb5⟩, ?_⟩
        simp [intOf]
        omega
      · rw [if_neg hc] at HF
        have HOD : Hid (CutsAt (wr.alloc (.cells #[.int .i64 c1, .bool c2] 41)) w.heap.size (.slice a' (fewL D (k + 1)).length c') (fewL D (k + 1))) := by
          show CutsAt _ _ _ _
          rw [HF.out, ← HM.out]
          exact kown_below HO.out (below_new1 _ _)
        have e1 : Hid (m = (fewL D (k + 1)).length) := by
          show _ = _
          rw [HF.out, HM.out]
        by_cases h0 : 0 ≤ c1
        · have j0 : decide (0 ≤ c1) = true := decide_eq_true h0
          have j1 : decide ((m : Int) < 64) = false := decide_eq_false (by omega)
          clear HO
          go_wp2_with fail
          refine ⟨⟨k + 1, a', c', by omega, by simp, by rw [e1.out], by rw [e1.out]; exact HOD.out, hbc⟩, ?_⟩
          simp [intOf]
          omega
        · have j0 : decide (0 ≤ c1) = false := decide_eq_false h0
          clear HO
          go_wp2_with fail
          refine ⟨⟨k + 1, a', c', by omega, by simp, by rw [e1.out], by rw [e1.out]; exact HOD.out, hbc⟩, ?_⟩
          simp [intOf]
          omega
    · have e : k = n := by omega
      subst e
      have k5 : ¬ (k : Int) < (k : Int) := by omega
      have HO : Hid (CutsAt wr w.heap.size (.slice a' (fewL D k).length c') (fewL D k)) := hown
      clear hown
      go_wp2_with fail
      go_ret
      exact ⟨_, _, rfl, HO.out, hb⟩
end Go.Proofs.Ytdhbjcnbdfidcaa

namespace Go.Proofs.Ytdhbjcnbdfidcaa
open Go Go.RowKit
set_option linter.unusedSimpArgs false
set_option linter.unusedVariables false

theorem sizeRslot : (Try.prog.info? 36).map (·.size) = some 34 := by kernel_rfl
theorem zero_rslot (w : World) : (zeroValue 36).run Try.prog w = .ok (.agg (slC sl0)) w := by
  have h : (Try.prog.info? 36).bind (·.zero) = some (slV sl0) := by kernel_rfl
  cases hq : Try.prog.info? 36 with
  | none => simp [hq] at h
  | some i =>
    have hi : i.zero = some (slV sl0) := by simpa [hq] using h
    simp [zeroValue, typeInfo, hq, hi]
    rfl
theorem built_rslot (c a : Nat) (d : Vector Nat 32) : Try.prog.built 36 [(0, .int .u64 (c : Int)), (1, .int .u32 (a : Int)), (2, .agg (va 32 (iv .u8 (dF d))))] = some (slC (c, a, d)) := by kernel_rfl
theorem sum_range (s : Sl) {w : World} {b t : Nat} (h : Blk w b t (slC s)) : w.rangeAt b 2 ((List.range 32).map (iv .u8 (dF s.2.2))) := fun j u hu => by
  have hj : j < 32 := by
    rcases Nat.lt_or_ge j 32 with h1 | h1
    · exact h1
    · rw [List.getElem?_eq_none (by simpa using h1)] at hu
      cases hu
  rw [h.cell]
  unfold slC
  rw [va_at (slF s) (by omega), ← hu]
  unfold slF
  rw [if_neg (by omega), if_neg (by omega), show 2 + j - 2 = j by omega]
  simp [hj, iv]
set_option maxRecDepth 100000 in
set_option maxHeartbeats 2000000 in
theorem given_any (s : Sl) (w : World) : Calls Try.prog 12 #[.agg (slC s)] w fun e w' => e = .returned (.agg (slC s)) ∧ Below w.heap.size w w' := by
  have hz := zero_rslot
  have r0 : Blk ((w.alloc (.cells (slC s) 50)).alloc (.cells (slC sl0) 36)) w.heap.size 50 (slC s) := (Blk.new _ _ _).alloc _
  have r1 : Blk ((w.alloc (.cells (slC s) 50)).alloc (.cells (slC sl0) 36)) (w.heap.size + 1) 36 (slC sl0) := Blk.new1 _ _ _ _
  have hb : Below w.heap.size w ((w.alloc (.cells (slC s) 50)).alloc (.cells (slC sl0) 36)) := below_new2 _ _ _
  have x0 : ((w.alloc (.cells (slC s) 50)).alloc (.cells (slC sl0) 36)).cell? ⟨w.heap.size, 0, none⟩ = some (.int .u64 (s.1 : Int)) := by
    rw [r0.cell]
    exact va_at (slF s) (by decide)
  have x1 : ((w.alloc (.cells (slC s) 50)).alloc (.cells (slC sl0) 36)).cell? ⟨w.heap.size, 1, none⟩ = some (.int .u32 (s.2.1 : Int)) := by
    rw [r0.cell]
    exact va_at (slF s) (by decide)
  have HR : Hid (((w.alloc (.cells (slC s) 50)).alloc (.cells (slC sl0) 36)).rangeAt w.heap.size 2 ((List.range 32).map (iv .u8 (dF s.2.2)))) := sum_range s r0
  have hbt : Try.prog.built 36 [(0, .int .u64 (s.1 : Int)), (1, .int .u32 (s.2.1 : Int)), (2, .agg (va 32 (iv .u8 (dF s.2.2))))] = some (slC s) := built_rslot s.1 s.2.1 s.2.2
  go_enter Try.func12, Try.ntmps12
  go_wp2_with (first
    | (refine wpList_load_blk (by rfl) 44 _ (by rfl) w.heap.size 2 32 (iv .u8 (dF s.2.2)) (by rfl) _ HR.out Try.underlying44 rfl sizeSm ?_; simp only [Act.put, List.setIfInBounds_toArray, List.set_cons_zero, List.set_cons_succ])
    | (refine wpList_build3 (by rfl) 36 _ _ _ (by rfl) (.int .u64 (s.1 : Int)) (.int .u32 (s.2.1 : Int)) (.agg (va 32 (iv .u8 (dF s.2.2)))) (by rfl) (by rfl) (by rfl) (slC s) hbt ?_; simp only [Act.put, List.setIfInBounds_toArray, List.set_cons_zero, List.set_cons_succ])
    | (refine wpList_store_row (by rfl) 36 _ _ (by rfl) (w.heap.size + 1) (slC s) (by rfl) (by rfl) 36 _ r1 (sizeRslot.trans (by rw [slC_size])) (by simp only [slC_size]) (slC_all _) ?_; simp only [Act.put, List.setIfInBounds_toArray, List.set_cons_zero, List.set_cons_succ])
    | fail)
  try simp only [Exit.inBlock, Exit.then]
  refine bodyPost_ret (results_cell_row Try.results12 _ _ (w.heap.size + 1) 36 (slC s) (0, 0) _ rfl (r1.set _) Try.underlying36 rfl (sizeRslot.trans (by rw [slC_size]))) rfl ?_
  exact ⟨rfl, below_setRow hb (by omega) _⟩
theorem encF_lo (s : Sl) (j : Nat) (hj : j < 8) : encF s j = dig s.1 j := by
  unfold encF layB
  rw [if_pos (by omega), if_pos hj, if_neg (by omega), Nat.sub_zero]
theorem encF_mi (s : Sl) (j : Nat) (hj : j < 4) : encF s (8 + j) = dig s.2.1 j := by
  unfold encF layB
  rw [if_pos (by omega), if_neg (by omega), show 8 + j - 8 = j by omega]
theorem encF_hi (s : Sl) (j : Nat) (hj : j < 32) : encF s (12 + j) = dF s.2.2 j := by
  unfold encF
  rw [if_neg (by omega), show 12 + j - 12 = j by omega]
end Go.Proofs.Ytdhbjcnbdfidcaa
