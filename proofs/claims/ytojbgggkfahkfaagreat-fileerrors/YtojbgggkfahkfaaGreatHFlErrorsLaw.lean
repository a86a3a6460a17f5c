/- The statement FileErrors: its walk. -/
import Derived.Test.YtojbgggkfahkfaaGreatHFlStands
import Derived.Handy
import Derived.Test.YtojbgggkfahkfaaGreatHInsMem
import Derived.Test.YtojbgggkfahkfaaGreatHGrKit
import Derived.LoopTactic
import Derived.Test.YtojbgggkfahkfaaGreatHFlKit
import Derived.Deep.DeepCutAuto

namespace Go.Proofs.YtojbgggkfahkfaaGreat
open Go Go.RowKit
set_option linter.unusedSimpArgs false
set_option linter.unusedVariables false
/-- a file among inodes that lie above the world w -/
structure BS (w V : World) (x mf ml mc : Nat) (cp : Option Addr) (top : Int) (H0 : Nat → Hd) (D0 : Nat → Nat → Nat → Nat) (n z st : Nat) (F : Nat → Nat) : Prop where
  now : Now V x mf ml mc cp top H0 D0 n z st F
  bel : Below w.heap.size w V
  gl : w.heap.size ≤ ml
  gf : w.heap.size ≤ mf
  by8 : ∀ p, p < z → F p < 256
/-- how great a file is behind a write -/
def wzN (z a n : Nat) : Nat := if n = 0 then z else max z (a + n)
section
variable {w V : World} {x mf ml mc : Nat} {cp : Option Addr} {top : Int} {H0 : Nat → Hd} {D0 : Nat → Nat → Nat → Nat} {n z st : Nat} {F : Nat → Nat}
theorem BS.le (h : BS w V x mf ml mc cp top H0 D0 n z st F) : z ≤ 1048576 := by
  obtain ⟨H, D, _, hf, _⟩ := h.now
  exact hf.le
theorem BS.below {V' : World} (h : BS w V x mf ml mc cp top H0 D0 n z st F) (hb : Below V.heap.size V V') : BS w V' x mf ml mc cp top H0 D0 n z st F := by
  obtain ⟨H, D, hI, hf, hm⟩ := h.now
  exact ⟨⟨H, D, hI.below hb, hf, hm⟩, h.bel.trans (hb.mono h.bel.size), h.gl, h.gf, h.by8⟩
theorem BS.congr {G : Nat → Nat} (h : BS w V x mf ml mc cp top H0 D0 n z st F) (hG : ∀ p, p < z → G p = F p) : BS w V x mf ml mc cp top H0 D0 n z st G := by
  obtain ⟨H, D, hI, hf, hm⟩ := h.now
  exact ⟨⟨H, D, hI, hf.congr hG, hm⟩, h.bel, h.gl, h.gf, fun p hp => by rw [hG p hp]; exact h.by8 p hp⟩
theorem BS.of_now {V' : World} {H D z' s'} {G : Nat → Nat} (h : BS w V x mf ml mc cp top H0 D0 n z st F) (hm : ∀ m, m ≠ n → H m = H0 m ∧ D m = D0 m) (hN : Now V' x mf ml mc cp top H D n z' s' G) (hT : Turns (fun z => z = ml ∨ z = mf) V V') (hG : ∀ p, p < z' → G p < 256) : BS w V' x mf ml mc cp top H0 D0 n z' s' G := by
  obtain ⟨H', D', h1, h2, h3⟩ := hN
  refine ⟨⟨H', D', h1, h2, fun m hm' => ⟨(h3 m hm').1.trans (hm m hm').1, (h3 m hm').2.trans (hm m hm').2⟩⟩, ?_, h.gl, h.gf, hG⟩
  have := h.gl
  have := h.gf
  exact h.bel.trans (hT.below h.bel.size (fun b hb => by rcases hb with rfl | rfl <;> assumption))
theorem BS.write (h : BS w V x mf ml mc cp top H0 D0 n z st F) (a : Nat) (s : ByteArray) (ha : a + s.size ≤ 1048576) (s' : Nat) : Calls Tryz.prog 16 #[.pointer (some ⟨x, 0, none⟩), .int .i64 (n : Int), .int .i64 (a : Int), .string s, .int .u64 ((s' : Nat) : Int)] V fun e w' => e = .returned (.tuple #[.int .i64 ((a + s.size : Nat) : Int), .int .i64 0]) ∧ BS w w' x mf ml mc cp top H0 D0 n (wzN z a s.size) (if s.size = 0 then st else s') (wrF F z s a) := by
  obtain ⟨H, D, hI, hf, hm⟩ := h.now
  by_cases h0 : s.size = 0
  · have e := empty_text h0
    subst e
    refine (hI.writeNone hf a s' (by omega)).mono ?_
    rintro e w' ⟨rfl, hb⟩
    refine ⟨rfl, ?_⟩
    have hb2 := h.below hb
    refine hb2.congr fun p hp => ?_
    unfold wrF
    rw [if_neg (fun c => absurd c.2 (by have : (⟨#[]⟩ : ByteArray).size = 0 := rfl; omega)), if_pos (by simpa [wzN] using hp)]
  · refine (hI.writeOk hf a s' s (by omega) ha).mono ?_
    rintro e w' ⟨rfl, hN, hT⟩
    refine ⟨rfl, ?_⟩
    rw [if_neg h0]
    unfold wzN
    rw [if_neg h0]
    exact h.of_now hm hN hT fun p _ => wrF_lt h.by8 _ _ _
end
end Go.Proofs.YtojbgggkfahkfaaGreat

namespace Go.Proofs.YtojbgggkfahkfaaGreat
open Go Go.RowKit
set_option linter.unusedSimpArgs false
set_option linter.unusedVariables false
/-- the numbers in use among the first m, as cells -/
def usL (H : Nat → Hd) : Nat → List Value
  | 0 => []
  | m + 1 => usL H m ++ (if (H (m + 1)).k = 0 then [] else [.int .i64 ((m : Int) + 1)])
theorem usL_le (H : Nat → Hd) : ∀ m, (usL H m).length ≤ m
  | 0 => Nat.le_refl _
  | m + 1 => by
    have := usL_le H m
    unfold usL
    rw [List.length_append]
    split <;> simp <;> omega
section
variable {w w' : World} {x mf ml mc : Nat} {cp : Option Addr} {top : Int} {H : Nat → Hd} {D : Nat → Nat → Nat → Nat}
set_option maxRecDepth 100000 in
set_option maxHeartbeats 8000000 in
theorem IM.all (h : IM w x mf ml mc cp top H D) (c : Nat) (ht : 0 ≤ top ∧ top ≤ 4096) (hc : (top + 3) / 4 = (c : Int)) : Calls Tryz.prog 21 #[.pointer (some ⟨x, 0, none⟩)] w fun e w' => ∃ a cap, e = .returned (.tuple #[.slice a (usL H (4 * c)).length cap, .int .i64 0]) ∧ w'.ownsRow w.heap.size 3 1 (.slice a (usL H (4 * c)).length cap) (usL H (4 * c)).length (usL H (4 * c)) ∧ Below w.heap.size w w' := by
  obtain ⟨i0, hi, hz0, hz1, hz2⟩ := tinfo_parts tinfoInt
  have hz := zero_ft
  have hzh := zero_hd
  have HFF : Hid (∀ i : Nat, i < 1024 → ∀ V, Below w.heap.size w V → Calls Tryz.prog 45 #[.pointer (some ⟨x, 0, none⟩), .int .i64 (i : Int)] V fun e w' => e = .returned (.tuple #[.agg (ftC (foH H i)), .int .i64 0]) ∧ Below V.heap.size V w') := fun i hi V hV => (h.below hV).four i hi
  have HLT := leavesTo_any top ht.1 ht.2 w
  rw [hc] at HLT
  have HNU : Hid (∀ i j : Nat, i < 1024 → j < 4 → ∀ w : World, Calls Tryz.prog 47 #[.int .i64 (i : Int), .int .i64 (j : Int)] w fun e w2 => e = .returned (.int .i64 ((i : Int) * 4 + (j : Int) + 1)) ∧ w2 = w) := fun i j h1 h2 => numberAt_any (i : Int) (j : Int) (by omega) (by omega) (by omega) (by omega)
  have hc4 : c ≤ 1024 := by omega
  have c36 : w.cell? ⟨x, 36, none⟩ = some (.int .i64 top) := h.ix.cv (n := 40) (by decide)
  clear h hc ht
  go_enter Tryz.func21, Tryz.ntmps21
  go_wp2_with fail
  refine HLT.mono ?_
  rintro e w1 ⟨rfl, hw1⟩
  rw [hw1]
  clear hw1 w1 HLT c36
  go_wp2_with fail
  go_loopw [4, 17] (fun v t wr => Hid (∃ (i m cap : Nat) (a : Option Addr), i ≤ c ∧ t = .int .i64 (i : Int) ∧ (usL H (4 * i)).length = m ∧ v = .slice a m cap ∧ wr.ownsRow w.heap.size 3 1 v m (usL H (4 * i)) ∧ Below w.heap.size w wr)) (fun _ t _ => c - (intOf t).toNat)
  case atStart => exact ⟨0, 0, 0, none, Nat.zero_le _, rfl, rfl, rfl, World.ownsRow_nil _ _ _ _, Below.refl _ _⟩
  case round =>
    obtain ⟨i, m, cap, a, hi4, rfl, hm, rfl, hown, hb⟩ := Hid.out hrel
    clear hrel
    by_cases hic : i < c
    · have i1 : (i : Int) < (c : Int) := by omega
      have i2 : i ≤ 1024 := by omega
      have HF1 := HFF.out i (by omega) _ hb
      have HR : Hid ((usL H (4 * i)).length = m ∧ wr.ownsRow w.heap.size 3 1 (.slice a m cap) m (usL H (4 * i)) ∧ Below w.heap.size w wr ∧ i < c) := ⟨hm, hown, hb, hic⟩
      clear hm hown hb hi4 hic
      go_wp2_with fail
      refine HF1.mono ?_
      rintro e w2 ⟨rfl, hb2⟩
      have f3 : Blk (w2.alloc (.cells (ftC ft00) 91)) w2.heap.size 91 (ftC ft00) := Blk.new _ _ _
      have f3' := f3.set (ftC (foH H i))
      have HR3 : Hid (((w2.alloc (.cells (ftC ft00) 91)).setRow w2.heap.size (ftC (foH H i))).ownsRow w.heap.size 3 1 (.slice a m cap) m (usL H (4 * i)) ∧ Below w.heap.size w ((w2.alloc (.cells (ftC ft00) 91)).setRow w2.heap.size (ftC (foH H i)))) := by
        have hb23 : Below w2.heap.size w2 ((w2.alloc (.cells (ftC ft00) 91)).setRow w2.heap.size (ftC (foH H i))) := below_setRow (below_new1 _ _) (Nat.le_refl _) _
        have hb13 : Below wr.heap.size wr _ := hb2.trans (hb23.mono hb2.size)
        refine ⟨⟨HR.out.2.1.1, ?_⟩, HR.out.2.2.1.trans (hb13.mono HR.out.2.2.1.size)⟩
        rcases HR.out.2.1.2 with h | ⟨g, cap, cur, h1, h2, h3, h4⟩
        · exact .inl h
        · exact .inr ⟨g, cap, cur, h1, h2, (hb13.block g (Array.getElem?_eq_some_iff.1 h3).1).trans h3, h4⟩
      clear hb2 HF1
      go_wp2_with (first
        | (refine wpList_store_row (by rfl) 91 _ _ (by rfl) (w2.heap.size) (ftC (foH H i)) (by rfl) (by rfl) 91 (ftC ft00) (by exact f3) (sizeFt.trans (by rw [ftC_size])) (by simp only [ftC_size]) (ftC_all _) ?_; simp only [Act.put, List.setIfInBounds_toArray, List.set_cons_zero, List.set_cons_succ])
        | (refine wpList_load_rowg (by rfl) 91 _ (by rfl) (w2.heap.size) (by rfl) 91 (ftC (foH H i)) (0, 0) _ (by exact f3') Tryz.underlying91 (by rfl) (sizeFt.trans (by rw [ftC_size])) ?_; simp only [Act.put, List.setIfInBounds_toArray, List.set_cons_zero, List.set_cons_succ])
        | fail)
      clear f3 f3'
      generalize ((w2.alloc (.cells (ftC ft00) 91)).setRow w2.heap.size (ftC (foH H i))) = w3 at *
      go_loopw [4, 30] (fun v t wr => Hid (∃ (j m cap : Nat) (a : Option Addr), j ≤ 4 ∧ t = .int .i64 (j : Int) ∧ (usL H (4 * i + j)).length = m ∧ v = .slice a m cap ∧ wr.ownsRow w.heap.size 3 1 v m (usL H (4 * i + j)) ∧ Below w.heap.size w wr)) (fun _ t _ => 4 - (intOf t).toNat)
      case atStart => exact ⟨0, m, cap, a, by omega, rfl, HR.out.1, rfl, HR3.out.1, HR3.out.2⟩
      case round =>
        obtain ⟨j, mm, cap', a', hj, rfl, hmm, rfl, hown, hb⟩ := Hid.out hrel
        clear hrel HR3
        by_cases hj4 : j < 4
        · have j1 : (j : Int) < 4 := by omega
          have hix : ∀ w, (Instr.index 91 (.agg (ftC (foH H i))) (.int .i64 (j : Int))).run Tryz.prog w = .ok (.agg (hdC (foH H i j))) w := fun w => run_index_ft (foH H i) j hj4 w
          have q4 : Blk (wr.alloc (.cells (hdC hd00) 79)) wr.heap.size 79 (hdC hd00) := Blk.new _ _ _
          have q4' := q4.set (hdC (foH H i j))
          have hb34 : Below wr.heap.size wr ((wr.alloc (.cells (hdC hd00) 79)).setRow wr.heap.size (hdC (foH H i j))) := below_setRow (below_new1 _ _) (Nat.le_refl _) _
          have HR4 : Hid (((wr.alloc (.cells (hdC hd00) 79)).setRow wr.heap.size (hdC (foH H i j))).ownsRow w.heap.size 3 1 (.slice a' mm cap') mm (usL H (4 * i + j)) ∧ Below w.heap.size w ((wr.alloc (.cells (hdC hd00) 79)).setRow wr.heap.size (hdC (foH H i j))) ∧ j < 4 ∧ (usL H (4 * i + j)).length = mm) := by
            refine ⟨⟨hown.1, ?_⟩, hb.trans (hb34.mono hb.size), hj4, hmm⟩
            rcases hown.2 with h | ⟨g, cap, cur, h1, h2, h3, h4⟩
            · exact .inl h
            · exact .inr ⟨g, cap, cur, h1, h2, (hb34.block g (Array.getElem?_eq_some_iff.1 h3).1).trans h3, h4⟩
          have HIU : Hid (∀ w : World, Calls Tryz.prog 46 #[.agg (hdC (foH H i j))] w fun e w' => e = .returned (.bool ((foH H i j).k != 0)) ∧ Below w.heap.size w w') := inUse_any (foH H i j)
          clear hown hb hj hj4 hmm hb34
          go_wp2_with (first
            | (refine wpList_store_row (by rfl) 79 _ _ (by rfl) (wr.heap.size) (hdC (foH H i j)) (by rfl) (by rfl) 79 (hdC hd00) (by exact q4) (sizeHd.trans (by rw [hdC_size])) (by simp only [hdC_size]) (hdC_all _) ?_; simp only [Act.put, List.setIfInBounds_toArray, List.set_cons_zero, List.set_cons_succ])
            | (refine wpList_load_rowg (by rfl) 79 _ (by rfl) (wr.heap.size) (by rfl) 79 (hdC (foH H i j)) (0, 0) _ (by exact q4') Tryz.underlying79 (by rfl) (sizeHd.trans (by rw [hdC_size])) ?_; simp only [Act.put, List.setIfInBounds_toArray, List.set_cons_zero, List.set_cons_succ])
            | fail)
          clear q4 hix q4'
          generalize ((wr.alloc (.cells (hdC hd00) 79)).setRow wr.heap.size (hdC (foH H i j))) = w4 at *
          refine (HIU.out w4).mono ?_
          rintro e w5 ⟨rfl, hb5⟩
          have hown5 : w5.ownsRow w.heap.size 3 1 (.slice a' mm cap') mm (usL H (4 * i + j)) := by
            refine ⟨HR4.out.1.1, ?_⟩
            rcases HR4.out.1.2 with h | ⟨g, cap, cur, h1, h2, h3, h4⟩
            · exact .inl h
            · exact .inr ⟨g, cap, cur, h1, h2, (hb5.block g (Array.getElem?_eq_some_iff.1 h3).1).trans h3, h4⟩
          have hb5' : Below w.heap.size w w5 := HR4.out.2.1.trans (hb5.mono HR4.out.2.1.size)
          have HJ : Hid (j < 4 ∧ (usL H (4 * i + j)).length = mm) := HR4.out.2.2
          have hus : usL H (4 * i + j + 1) = usL H (4 * i + j) ++ (if (foH H i j).k = 0 then [] else [.int .i64 (((4 * i + j : Nat) : Int) + 1)]) := rfl
          clear hb5 HR4 HIU
          by_cases hk : (foH H i j).k = 0
          · have hkb : ((foH H i j).k != 0) = false := by rw [hk]; rfl
            rw [if_pos hk, List.append_nil] at hus
            have HUS : Hid (usL H (4 * i + j + 1) = usL H (4 * i + j)) := hus
            rw [hkb]
            clear hk hkb hus
            go_wp2_with fail
            go_roundw
            case rel => exact ⟨j + 1, mm, cap', a', HJ.out.1, by simp, by rw [← Nat.add_assoc, HUS.out]; exact HJ.out.2, rfl, by rw [← Nat.add_assoc, HUS.out]; exact hown5, hb5'⟩
            case measure =>
              have := HJ.out
              simp [intOf]
              omega
          · have hkb : ((foH H i j).k != 0) = true := by simpa using hk
            rw [if_neg hk] at hus
            have HUS : Hid (usL H (4 * i + j + 1) = usL H (4 * i + j) ++ [.int .i64 (((4 * i + j : Nat) : Int) + 1)]) := hus
            rw [hkb]
            have HNU1 := HNU.out i j (by have := HR.out; omega) HJ.out.1 w5
            have hv := hown5.lt
            have hsz := hb5'.size
            have hmb : mm ≤ 4096 := by have := usL_le H (4 * i + j); have := HJ.out; omega
            have e1 : (i : Int) * 4 + (j : Int) + 1 = ((4 * i + j : Nat) : Int) + 1 := by omega
            rw [e1] at HNU1
            clear hk hkb hus e1
            go_wp2_with fail
            refine HNU1.mono ?_
            rintro e w6 ⟨rfl, hw6⟩
            rw [hw6]
            clear hw6 w6 HNU1
            go_wp2_with (first
              | (at_builtin; refine wpList_append_own _ rfl _ _ 51 rfl (w.heap.size) 3 i0 (.int .i64 0) 1 8 Tryz.underlying51 hi hz0 hz1 hz2 rfl (by decide) _ _ _ rfl (hown5.alloc _) ⟨w5.heap.size, 0, none⟩ 1 1 [.int .i64 (((4 * i + j : Nat) : Int) + 1)] rfl rfl (cell_one_new _ _ _) (fun x hx => by simp at hx; subst hx; rfl) (by unfold maxLen; omega) (by omega) (by simp; omega) ?_)
              | go_in)
            intro v' w7 hown' hgrow _
            have hb7 : Below w.heap.size w w7 := (hb5'.alloc (by omega) _).grown hgrow (by simp; omega) (fun k hk => (hv k hk).1)
            have hown7 : w7.ownsRow w.heap.size 3 1 v' (mm + 1) (usL H (4 * i + j + 1)) := by
              rw [HUS.out]
              simpa using hown'
            obtain ⟨g3, cap3, hv3⟩ := kown_slice hown7
            subst hv3
            clear hown5 hv hgrow hb5' hown'
            go_wp2_with fail
            go_roundw
            case rel => exact ⟨j + 1, mm + 1, cap3, g3, HJ.out.1, by simp, by rw [← Nat.add_assoc, HUS.out, List.length_append, HJ.out.2]; rfl, rfl, by rw [← Nat.add_assoc]; exact hown7, hb7⟩
            case measure =>
              have := HJ.out
              simp [intOf]
              omega
        · have hj5 : j = 4 := by omega
          subst hj5
          have j1 : ¬ ((4 : Int) < 4) := by decide
          have HX : Hid ((usL H (4 * i + 4)).length = mm ∧ wr.ownsRow w.heap.size 3 1 (.slice a' mm cap') mm (usL H (4 * i + 4)) ∧ Below w.heap.size w wr) := ⟨hmm, hown, hb⟩
          clear hmm hown hb hj4 hj
          go_wp2_with fail
          go_roundw
          case rel => exact ⟨i + 1, mm, cap', a', HR.out.2.2.2, by simp, HX.out.1, rfl, HX.out.2.1, HX.out.2.2⟩
          case measure =>
            have := HR.out
            simp [intOf]
            omega
    · have hic' : i = c := by omega
      have i1 : ¬ ((i : Int) < (c : Int)) := by omega
      subst hic'
      subst hm
      clear hic
      go_wp2_with fail
      go_ret2
      exact ⟨a, cap, rfl, hown, hb⟩
end
end Go.Proofs.YtojbgggkfahkfaaGreat

namespace Go.Proofs.YtojbgggkfahkfaaGreat
open Go Go.RowKit
set_option linter.unusedSimpArgs false
set_option linter.unusedVariables false
theorem fl_build_at {P : Program} {ops : Array Oper} {rest : List Oper} {o : Oper} {a : Act} {w : World} {Q : Exit → Act → World → Prop} (hw : Region.wanted o (yielded ops a.tmps) = true) (t : TypeId) (parts : Array (Nat × Operand)) (ho : o.op = .build t parts) (vals : List (Nat × Value))
    (hv : (parts.map fun (i, x) => (i, a.eval x)).toList = vals) (cells : Array Value) (hf : P.built t vals = some cells) (h : wpList P ops Q rest (a.put o.dst (.agg cells)) w) : wpList P ops Q (o :: rest) a w :=
  wpList_step fun K hK => by
    rw [if_pos hw]
    subst hv
    refine wp_build t parts ho (by rw [hf]; rfl) ?_
    rw [hf]
    exact hK _ _ h
theorem built_md1 : Tryz.prog.built 33 [(1, .int .u64 1)] = some (mdC ⟨#[]⟩ 1) := by kernel_rfl
/-- a deed's cells -/
def acC (kd a m : Int) (s : ByteArray) (t : Nat) : Array Value := #[.int .i64 kd, .int .i64 a, .int .i64 m, .string s, .int .u64 ((t : Nat) : Int)]
theorem ac_cs {w : World} {b T : Nat} {kd a m : Int} {s : ByteArray} {t : Nat} (H : Blk w b T (acC kd a m s t)) : w.cell? ⟨b, 1, none⟩ = some (.int .i64 a) ∧ w.cell? ⟨b, 2, none⟩ = some (.int .i64 m) ∧ w.cell? ⟨b, 3, none⟩ = some (.string s) ∧ w.cell? ⟨b, 4, none⟩ = some (.int .u64 ((t : Nat) : Int)) := ⟨(H.cell 1).trans rfl, (H.cell 2).trans rfl, (H.cell 3).trans rfl, (H.cell 4).trans rfl⟩
theorem TwoErr.mono {w V : World} {xp : Value} {a b er : Int} (h : TwoErr w xp a b er) (hb : Below w.heap.size w V) : TwoErr V xp a b er := fun U hU => h U (hb.trans (hU.mono hb.size))
theorem nil_err (w : World) (a b : Int) : TwoErr w (.pointer none) a b 1 := two_ea (by decide) fun V _ => get_nil a V
/-- what is told of a number that is no file's among those that were begun -/
theorem bg_err {w : World} {x mf ml mc : Nat} {cp : Option Addr} (h : IM w x mf ml mc cp 2 bgH bgD) (n : Int) (hn : -9223372036854775808 ≤ n ∧ n ≤ 9223372036854775807) (h1 : n ≠ 1) (h2 : n ≠ 2) (er : Int) (her : er = if 1 ≤ n ∧ n ≤ 4096 then 151 else 141) (b : Int) : TwoErr w (.pointer (some ⟨x, 0, none⟩)) n b er ∧ TwoErr w (.pointer (some ⟨x, 0, none⟩)) 2 n er := by
  have he : noE bgH n = er := by
    unfold noE
    rw [her]
    by_cases c : 1 ≤ n ∧ n ≤ 4096
    · rw [if_pos c, if_pos c, bg_none n.toNat (by omega) (by omega)]
      rfl
    · rw [if_neg c, if_neg c]
  have er0 : er ≠ 0 := by rw [her]; split <;> decide
  have HG : ∀ V, Below w.heap.size w V → Calls Tryz.prog 32 #[.pointer (some ⟨x, 0, none⟩), .int .i64 n] V fun e w' => e = .returned (.tuple #[.agg if0, .int .i64 er]) ∧ Below V.heap.size V w' := fun V hV => by
    have := (h.below hV).getNot n hn (by rw [he]; exact er0)
    rw [he] at this
    exact this
  exact ⟨two_ea er0 HG, two_eb (n1 := 2) (k1 := 1) (l1 := 1) (s1 := 0) (t1 := 1) er0 (fun V hV => (h.below hV).getF bg_file) HG⟩
theorem bg_dir {w : World} {x mf ml mc : Nat} {cp : Option Addr} (h : IM w x mf ml mc cp 2 bgH bgD) : TwoErr w (.pointer (some ⟨x, 0, none⟩)) 1 1 161 ∧ TwoErr w (.pointer (some ⟨x, 0, none⟩)) 1 2 161 ∧ TwoErr w (.pointer (some ⟨x, 0, none⟩)) 2 1 161 := by
  have HG : ∀ V, Below w.heap.size w V → Calls Tryz.prog 32 #[.pointer (some ⟨x, 0, none⟩), .int .i64 1] V fun e w' => e = .returned (.tuple #[.agg (ifC 1 2 1 0 1), .int .i64 0]) ∧ Below V.heap.size V w' := fun V hV => (h.below hV).get 1 (by decide) (by decide) (by decide)
  have HF : ∀ V, Below w.heap.size w V → Calls Tryz.prog 32 #[.pointer (some ⟨x, 0, none⟩), .int .i64 2] V fun e w' => e = .returned (.tuple #[.agg (ifC 2 1 1 0 1), .int .i64 0]) ∧ Below V.heap.size V w' := fun V hV => (h.below hV).getF bg_file
  exact ⟨two_ed (.inl rfl) HG HG, two_ed (.inl rfl) HG HF, two_ed (.inr rfl) HF HG⟩
theorem us_two : (usL bgH (4 * 1)).length = 2 := by decide
set_option maxRecDepth 100000 in
set_option maxHeartbeats 16000000 in
theorem fileErrorsLaw (n : Int) (hn : -9223372036854775808 ≤ n ∧ n ≤ 9223372036854775807) (kd a m : Int) (s : ByteArray) (t : Nat) (w : World) : Calls Tryz.prog 4 #[.int .i64 n, .agg (acC kd a m s t)] w fun e w' => e = .returned (.bool true) ∧ Below w.heap.size w w' := by
  have k0 : Blk (w.alloc (.cells (acC kd a m s t) 35)) w.heap.size 35 (acC kd a m s t) := Blk.new _ _ _
  have hb0 : Below w.heap.size w (w.alloc (.cells (acC kd a m s t) 35)) := below_new1 _ _
  have HB := begun_any (w.alloc (.cells (acC kd a m s t) 35))
  have HAW : Hid (∀ w : World, Calls Tryz.prog 7 #[] w fun e w' => e = .returned (.bool true) ∧ Below w.heap.size w w') := awake16_any
  go_enter Tryz.func4, Tryz.ntmps4
  go_wp2_with fail
  generalize (w.alloc (.cells (acC kd a m s t) 35)) = w0 at *
  refine HB.mono ?_
  rintro e w1 ⟨x, mf, ml, mc, cp, rfl, hBeg⟩
  have h1 := hBeg.2.1
  have k1 := k0.below hBeg.2.2 k0.lt
  have hb1 := hb0.trans (hBeg.2.2.mono hb0.size)
  have HA1 := HAW.out w1
  clear HB hBeg k0 hb0
  go_wp2_with fail
  refine HA1.mono ?_
  rintro e w2 ⟨rfl, hb2⟩
  have h2 := h1.below hb2
  have k2 := k1.below hb2 k1.lt
  have hb12 := hb1.trans (hb2.mono hb1.size)
  clear HA1 h1 k1 hb1 hb2
  by_cases n2 : n = 2
  · subst n2
    have HA2 := HAW.out w2
    have HE : Hid (Below w.heap.size w w2) := hb12
    clear h2 k2 hb12
    go_wp2_with fail
    refine HA2.mono ?_
    rintro e w3 ⟨rfl, hb3⟩
    have HE3 : Hid (Below w.heap.size w w3) := HE.out.trans (hb3.mono HE.out.size)
    clear HA2 hb3
    go_wp2_with fail
    go_ret
    exact ⟨rfl, HE3.out⟩
  · have n2b : (n == 2) = false := by simpa using n2
    have HS0 : Hid (IM w2 x mf ml mc cp 2 bgH bgD ∧ Blk w2 w.heap.size 35 (acC kd a m s t) ∧ Below w.heap.size w w2) := ⟨h2, k2, hb12⟩
    clear h2 k2 hb12
    obtain ⟨er, hT, her0, her1, hnn⟩ : ∃ er : Int, (∀ V, IM V x mf ml mc cp 2 bgH bgD → TwoErr V (.pointer (some ⟨x, 0, none⟩)) n n er ∧ TwoErr V (.pointer (some ⟨x, 0, none⟩)) n 2 er ∧ TwoErr V (.pointer (some ⟨x, 0, none⟩)) 2 n er) ∧ er ≠ 0 ∧ (n = 1 → er = 161) ∧ (n ≠ 1 → er = if 1 ≤ n ∧ n ≤ 4096 then 151 else 141) := by
      by_cases n1 : n = 1
      · subst n1
        exact ⟨161, fun V hV => bg_dir hV, by decide, fun _ => rfl, fun h => absurd rfl h⟩
      · refine ⟨if 1 ≤ n ∧ n ≤ 4096 then 151 else 141, fun V hV => ⟨(bg_err hV n hn n1 n2 _ rfl n).1, bg_err hV n hn n1 n2 _ rfl 2⟩, by split <;> decide, fun h => absurd h n1, fun _ => rfl⟩
    have HT : Hid (∀ V, IM V x mf ml mc cp 2 bgH bgD → TwoErr V (.pointer (some ⟨x, 0, none⟩)) n n er ∧ TwoErr V (.pointer (some ⟨x, 0, none⟩)) n 2 er ∧ TwoErr V (.pointer (some ⟨x, 0, none⟩)) 2 n er) := hT
    have HER : Hid ((n = 1 → er = 161) ∧ (n ≠ 1 → er = if 1 ≤ n ∧ n ≤ 4096 then 151 else 141)) := ⟨her1, hnn⟩
    clear hT her1 hnn
    go_upto_region 5 with fail
    go_cut [51] (fun v wx => (∃ z : Bool, v = .bool z ∧ Hid (z = true ↔ (n < 1 ∨ 4096 < n))) ∧ wx = w2)
    case first =>
      by_cases nlo : n < 1
      · go_wp2_with fail
        go_meet
        exact ⟨⟨true, rfl, ⟨fun _ => .inl nlo, fun _ => rfl⟩⟩, rfl⟩
      · by_cases nhi : 4096 < n
        · go_wp2_with fail
          go_meet
          exact ⟨⟨true, rfl, ⟨fun _ => .inr nhi, fun _ => rfl⟩⟩, rfl⟩
        · go_wp2_with fail
          go_meet
          exact ⟨⟨false, rfl, ⟨fun h => (by cases h), fun h => absurd h (by omega)⟩⟩, rfl⟩
    case rest =>
     obtain ⟨⟨bb, rfl, hbb⟩, hwc⟩ := hcut
     rw [hwc]
     clear hwc
     go_upto_if 51 with fail
     go_cut [8] (fun v wx => (∃ z : Int, v = .int .i64 z ∧ Hid (z = if 1 ≤ n ∧ n ≤ 4096 then 151 else 141)) ∧ wx = w2)
     case first =>
      cases bb with
      | true =>
        have h := (Hid.out hbb).1 rfl
        clear hbb
        go_wp2_with fail
        go_meet
        exact ⟨⟨141, rfl, by show _ = _; rw [if_neg (by omega)]⟩, rfl⟩
      | false =>
        have h : ¬ (n < 1 ∨ 4096 < n) := fun h => by have := (Hid.out hbb).2 h; cases this
        clear hbb
        go_wp2_with fail
        go_meet
        exact ⟨⟨151, rfl, by show _ = _; rw [if_pos (by omega)]⟩, rfl⟩
     case rest =>
      obtain ⟨⟨z, rfl, hz⟩, hwc⟩ := hcut
      rw [hwc]
      clear hwc
      go_upto_if 53 with fail
      go_cut [8] (fun v wx => v = .int .i64 er ∧ wx = w2)
      case first =>
        by_cases n1 : n = 1
        · have e := HER.out.1 n1
          subst n1
          go_wp2_with fail
          go_meet
          exact ⟨by rw [e], rfl⟩
        · have n1b : (n == 1) = false := by simpa using n1
          have e := (HER.out.2 n1).trans (Hid.out hz).symm
          go_wp2_with fail
          go_meet
          exact ⟨by rw [e], rfl⟩
      case rest =>
        obtain ⟨rfl, hwc⟩ := hcut
        rw [hwc]
        clear hwc hz
        have q3 : Blk (w2.alloc (.cells #[.pointer (some ⟨x, 0, none⟩), .pointer none] 23)) w2.heap.size 23 #[.pointer (some ⟨x, 0, none⟩), .pointer none] := Blk.new _ _ _
        have HS3 : Hid (IM (w2.alloc (.cells #[.pointer (some ⟨x, 0, none⟩), .pointer none] 23)) x mf ml mc cp 2 bgH bgD ∧ Blk (w2.alloc (.cells #[.pointer (some ⟨x, 0, none⟩), .pointer none] 23)) w.heap.size 35 (acC kd a m s t) ∧ Blk (w2.alloc (.cells #[.pointer (some ⟨x, 0, none⟩), .pointer none] 23)) w2.heap.size 23 #[.pointer (some ⟨x, 0, none⟩), .pointer none] ∧ Below w.heap.size w (w2.alloc (.cells #[.pointer (some ⟨x, 0, none⟩), .pointer none] 23))) := ⟨HS0.out.1.below (below_new1 _ _), HS0.out.2.1.alloc _, q3, HS0.out.2.2.alloc HS0.out.2.2.size _⟩
        clear q3
        go_wp2_with fail
        obtain ⟨g, hg⟩ : ∃ g, w2.heap.size = g := ⟨_, rfl⟩
        rw [hg] at HS3 ⊢
        generalize (w2.alloc (.cells #[.pointer (some ⟨x, 0, none⟩), .pointer none] 23)) = w3 at *
        clear hg HS0
        go_loopw [8, 58] (fun u v wr => Hid (∃ k : Nat, k ≤ 2 ∧ v = .int .i64 (k : Int) ∧ (k < 2 → u = .int .i64 er) ∧ IM wr x mf ml mc cp 2 bgH bgD ∧ Blk wr w.heap.size 35 (acC kd a m s t) ∧ Blk wr g 23 #[.pointer (some ⟨x, 0, none⟩), .pointer none] ∧ Below w.heap.size w wr)) (fun _ v _ => 2 - (intOf v).toNat)
        case atStart => exact ⟨0, by decide, rfl, fun _ => rfl, HS3.out.1, HS3.out.2.1, HS3.out.2.2.1, HS3.out.2.2.2⟩
        case round =>
          obtain ⟨k, hk, rfl, hu, hI, hA, hG, hb⟩ := Hid.out hrel
          clear hrel HS3
          have g0 : wr.cell? ⟨g, 0, none⟩ = some (.pointer (some ⟨x, 0, none⟩)) := (hG.cell 0).trans rfl
          have g1 : wr.cell? ⟨g, 1, none⟩ = some (.pointer none) := (hG.cell 1).trans rfl
          have HR : Hid (IM wr x mf ml mc cp 2 bgH bgD ∧ Blk wr w.heap.size 35 (acC kd a m s t) ∧ Blk wr g 23 #[.pointer (some ⟨x, 0, none⟩), .pointer none] ∧ Below w.heap.size w wr) := ⟨hI, hA, hG, hb⟩
          clear hI hA hG hb
          match k, hk with
          | 0, _ =>
            have hu' := hu (by decide)
            subst hu'
            clear hu
            have HTT : Hid (TwoErr wr (.pointer (some ⟨x, 0, none⟩)) n n er ∧ TwoErr wr (.pointer (some ⟨x, 0, none⟩)) n 2 er ∧ TwoErr wr (.pointer (some ⟨x, 0, none⟩)) 2 n er) := HT.out wr HR.out.1
            have hbW : Below wr.heap.size wr wr := Below.refl _ _
            have HC := read_err her0 (one_err (HTT.out.1.mono hbW)) a m
            obtain ⟨a1, a2, a3, a4⟩ := ac_cs (HR.out.2.1.below hbW HR.out.2.1.lt)
            go_wp2_with fail
            refine HC.mono ?_
            rintro e v1 ⟨rfl, hb_⟩
            have hbX : Below wr.heap.size wr v1 := hbW.trans (hb_.mono hbW.size)
            clear HC hb_ a1 a2 a3 a4 hbW
            have hbW := hbX
            clear hbX
            have HC := writeM_err her0 (one_err (HTT.out.1.mono hbW)) a s t
            obtain ⟨a1, a2, a3, a4⟩ := ac_cs (HR.out.2.1.below hbW HR.out.2.1.lt)
            go_wp2_with fail
            refine HC.mono ?_
            rintro e v2 ⟨rfl, hb_⟩
            have hbX : Below wr.heap.size wr v2 := hbW.trans (hb_.mono hbW.size)
            clear HC hb_ a1 a2 a3 a4 hbW
            have hbW := hbX
            clear hbX
            have HC := append_err her0 (one_err (HTT.out.1.mono hbW)) s t
            obtain ⟨a1, a2, a3, a4⟩ := ac_cs (HR.out.2.1.below hbW HR.out.2.1.lt)
            go_wp2_with fail
            refine HC.mono ?_
            rintro e v3 ⟨rfl, hb_⟩
            have hbX : Below wr.heap.size wr v3 := hbW.trans (hb_.mono hbW.size)
            clear HC hb_ a1 a2 a3 a4 hbW
            have hbW := hbX
            clear hbX
            have HC := size_err her0 (one_err (HTT.out.1.mono hbW))
            obtain ⟨a1, a2, a3, a4⟩ := ac_cs (HR.out.2.1.below hbW HR.out.2.1.lt)
            go_wp2_with fail
            refine HC.mono ?_
            rintro e v4 ⟨rfl, hb_⟩
            have hbX : Below wr.heap.size wr v4 := hbW.trans (hb_.mono hbW.size)
            clear HC hb_ a1 a2 a3 a4 hbW
            have hbW := hbX
            clear hbX
            have HC := same_err her0 (HTT.out.2.1.mono hbW)
            obtain ⟨a1, a2, a3, a4⟩ := ac_cs (HR.out.2.1.below hbW HR.out.2.1.lt)
            go_wp2_with fail
            refine HC.mono ?_
            rintro e v5 ⟨rfl, hb_⟩
            have hbX : Below wr.heap.size wr v5 := hbW.trans (hb_.mono hbW.size)
            clear HC hb_ a1 a2 a3 a4 hbW
            have hbW := hbX
            clear hbX
            have HC := truncate_err her0 (one_err (HTT.out.1.mono hbW)) a t
            obtain ⟨a1, a2, a3, a4⟩ := ac_cs (HR.out.2.1.below hbW HR.out.2.1.lt)
            go_wp2_with fail
            refine HC.mono ?_
            rintro e v6 ⟨rfl, hb_⟩
            have hbX : Below wr.heap.size wr v6 := hbW.trans (hb_.mono hbW.size)
            clear HC hb_ a1 a2 a3 a4 hbW
            have hbW := hbX
            clear hbX
            have HC := zero_err her0 (one_err (HTT.out.1.mono hbW)) a m t
            obtain ⟨a1, a2, a3, a4⟩ := ac_cs (HR.out.2.1.below hbW HR.out.2.1.lt)
            go_wp2_with fail
            refine HC.mono ?_
            rintro e v7 ⟨rfl, hb_⟩
            have hbX : Below wr.heap.size wr v7 := hbW.trans (hb_.mono hbW.size)
            clear HC hb_ a1 a2 a3 a4 hbW
            have hbW := hbX
            clear hbX
            have HC := same_err her0 (HTT.out.2.2.mono hbW)
            obtain ⟨a1, a2, a3, a4⟩ := ac_cs (HR.out.2.1.below hbW HR.out.2.1.lt)
            go_wp2_with fail
            refine HC.mono ?_
            rintro e v8 ⟨rfl, hb_⟩
            have hbX : Below wr.heap.size wr v8 := hbW.trans (hb_.mono hbW.size)
            clear HC hb_ a1 a2 a3 a4 hbW
            have hbW := hbX
            clear hbX
            have HF : Hid (_ ∧ _ ∧ _ ∧ Below w.heap.size w v8) := ⟨HR.out.1.below hbW, HR.out.2.1.below hbW HR.out.2.1.lt, HR.out.2.2.1.below hbW HR.out.2.2.1.lt, HR.out.2.2.2.trans (hbW.mono HR.out.2.2.2.size)⟩
            clear hbW
            go_wp2_with fail
            go_roundw
            case rel => exact ⟨1, by decide, rfl, fun _ => rfl, HF.out.1, HF.out.2.1, HF.out.2.2.1, HF.out.2.2.2⟩
            case measure => simp [intOf]
          | 1, _ =>
            have hu' := hu (by decide)
            subst hu'
            clear hu
            have HTT : Hid (TwoErr wr (.pointer none) n n 1 ∧ TwoErr wr (.pointer none) n 2 1) := ⟨nil_err _ _ _, nil_err _ _ _⟩
            have hbW : Below wr.heap.size wr wr := Below.refl _ _
            have HC := read_err (by decide) (one_err (HTT.out.1.mono hbW)) a m
            obtain ⟨a1, a2, a3, a4⟩ := ac_cs (HR.out.2.1.below hbW HR.out.2.1.lt)
            go_wp2_with fail
            refine HC.mono ?_
            rintro e v1 ⟨rfl, hb_⟩
            have hbX : Below wr.heap.size wr v1 := hbW.trans (hb_.mono hbW.size)
            clear HC hb_ a1 a2 a3 a4 hbW
            have hbW := hbX
            clear hbX
            have HC := writeM_err (by decide) (one_err (HTT.out.1.mono hbW)) a s t
            obtain ⟨a1, a2, a3, a4⟩ := ac_cs (HR.out.2.1.below hbW HR.out.2.1.lt)
            go_wp2_with fail
            refine HC.mono ?_
            rintro e v2 ⟨rfl, hb_⟩
            have hbX : Below wr.heap.size wr v2 := hbW.trans (hb_.mono hbW.size)
            clear HC hb_ a1 a2 a3 a4 hbW
            have hbW := hbX
            clear hbX
            have HC := append_err (by decide) (one_err (HTT.out.1.mono hbW)) s t
            obtain ⟨a1, a2, a3, a4⟩ := ac_cs (HR.out.2.1.below hbW HR.out.2.1.lt)
            go_wp2_with fail
            refine HC.mono ?_
            rintro e v3 ⟨rfl, hb_⟩
            have hbX : Below wr.heap.size wr v3 := hbW.trans (hb_.mono hbW.size)
            clear HC hb_ a1 a2 a3 a4 hbW
            have hbW := hbX
            clear hbX
            have HC := size_err (by decide) (one_err (HTT.out.1.mono hbW))
            obtain ⟨a1, a2, a3, a4⟩ := ac_cs (HR.out.2.1.below hbW HR.out.2.1.lt)
            go_wp2_with fail
            refine HC.mono ?_
            rintro e v4 ⟨rfl, hb_⟩
            have hbX : Below wr.heap.size wr v4 := hbW.trans (hb_.mono hbW.size)
            clear HC hb_ a1 a2 a3 a4 hbW
            have hbW := hbX
            clear hbX
            have HC := same_err (by decide) (HTT.out.2.mono hbW)
            obtain ⟨a1, a2, a3, a4⟩ := ac_cs (HR.out.2.1.below hbW HR.out.2.1.lt)
            go_wp2_with fail
            refine HC.mono ?_
            rintro e v5 ⟨rfl, hb_⟩
            have hbX : Below wr.heap.size wr v5 := hbW.trans (hb_.mono hbW.size)
            clear HC hb_ a1 a2 a3 a4 hbW
            have hbW := hbX
            clear hbX
            have HC := truncate_err (by decide) (one_err (HTT.out.1.mono hbW)) a t
            obtain ⟨a1, a2, a3, a4⟩ := ac_cs (HR.out.2.1.below hbW HR.out.2.1.lt)
            go_wp2_with fail
            refine HC.mono ?_
            rintro e v6 ⟨rfl, hb_⟩
            have hbX : Below wr.heap.size wr v6 := hbW.trans (hb_.mono hbW.size)
            clear HC hb_ a1 a2 a3 a4 hbW
            have hbW := hbX
            clear hbX
            have HC := zero_err (by decide) (one_err (HTT.out.1.mono hbW)) a m t
            obtain ⟨a1, a2, a3, a4⟩ := ac_cs (HR.out.2.1.below hbW HR.out.2.1.lt)
            go_wp2_with fail
            refine HC.mono ?_
            rintro e v7 ⟨rfl, hb_⟩
            have hbX : Below wr.heap.size wr v7 := hbW.trans (hb_.mono hbW.size)
            clear HC hb_ a1 a2 a3 a4 hbW
            have hbW := hbX
            clear hbX
            have HF : Hid (_ ∧ _ ∧ _ ∧ Below w.heap.size w v7) := ⟨HR.out.1.below hbW, HR.out.2.1.below hbW HR.out.2.1.lt, HR.out.2.2.1.below hbW HR.out.2.2.1.lt, HR.out.2.2.2.trans (hbW.mono HR.out.2.2.2.size)⟩
            clear hbW
            go_wp2_with fail
            go_roundw
            case rel => exact ⟨2, by decide, rfl, fun h => absurd h (by decide), HF.out.1, HF.out.2.1, HF.out.2.2.1, HF.out.2.2.2⟩
            case measure => simp [intOf]
          | 2, _ =>
            have HAL := HR.out.1.all 1 (by decide) (by decide)
            rw [us_two] at HAL
            clear hu g0 g1
            go_wp2_with fail
            refine HAL.mono ?_
            rintro e v1 ⟨al, cap, rfl, _, hb1⟩
            have hI1 := HR.out.1.below hb1
            have HST := hI1.standsF ⟨#[]⟩ (bg_file.congr fun p hp => absurd hp (by omega)) 0 1 (by decide) (by decide)
            have HE : Hid (Below w.heap.size w v1) := HR.out.2.2.2.trans (hb1.mono HR.out.2.2.2.size)
            clear HAL hb1 hI1
            go_wp2_with (first
              | (refine fl_build_at (by rfl) 33 _ (by rfl) [(1, .int .u64 1)] (by rfl) (mdC ⟨#[]⟩ 1) built_md1 ?_; simp only [Act.put, List.setIfInBounds_toArray, List.set_cons_zero, List.set_cons_succ])
              | fail)
            refine HST.mono ?_
            rintro e v2 ⟨rfl, hb2⟩
            have HE2 : Hid (Below w.heap.size w v2) := HE.out.trans (hb2.mono HE.out.size)
            clear HST hb2
            go_wp2_with fail
            go_ret
            exact ⟨rfl, HE2.out⟩
          | k + 3, h => exact absurd h (by omega)
end Go.Proofs.YtojbgggkfahkfaaGreat
