/- Commits: how many blocks a map has, of any number; a state that is not made: a part is missing, a root does not fit. -/
import Derived.Test.YtppagdmlfgialaaGreatHSuSize
import Derived.Test.YtppagdmlfgialaaGreatHCaLru
import Derived.Handy
import Derived.Test.YtppagdmlfgialaaGreatHCmAwake
import Derived.Test.YtppagdmlfgialaaGreatHSuNum
import Derived.Test.YtppagdmlfgialaaGreatHBiKit
import Derived.Test.YtppagdmlfgialaaGreatHInsOpen

namespace Go.Proofs.YtppagdmlfgialaaGreat
theorem sgLHCmMaps : (∀ (α : Type) (a : α) (l r : List α), (a :: l) ++ r = a :: (l ++ r)) ∧ (∀ (α : Type) (l : List α), [] ++ l = l) ∧ (∀ (α : Type) (l : List α), l ++ [] = l) ∧ (∀ (α β : Type) (f : α → Option β) (a : α) (l : List α), (a :: l).filterMap f = match f a with | none => l.filterMap f | some b => b :: l.filterMap f) ∧ (∀ (α β : Type) (f : α → Option β), [].filterMap f = []) ∧ (∀ (α : Type) (l : List α) (i : Nat), l.toArray[i]? = l[i]?) ∧ (∀ (α : Type) (a : α) (l : List α), (a :: l)[0]? = some a) ∧ (∀ (α : Type) (a : α) (l : List α) (i : Nat), (a :: l)[i + 1]? = l[i]?) :=
  ⟨fun _ _ _ _ => List.cons_append, fun _ _ => List.nil_append _, fun _ _ => List.append_nil _, fun _ _ _ _ _ => List.filterMap_cons, fun _ _ _ => List.filterMap_nil, fun _ _ _ => List.getElem?_toArray, fun _ _ _ => List.getElem?_cons_zero, fun _ _ _ _ => List.getElem?_cons_succ⟩
theorem sgPHCmMaps : (∀ (α : Type) (l : List α) (i : Nat) (a : α), l.toArray.setIfInBounds i a = (l.set i a).toArray) ∧ (∀ (α : Type) (a b : α) (l : List α), (a :: l).set 0 b = b :: l) ∧ (∀ (α : Type) (a b : α) (l : List α) (i : Nat), (a :: l).set (i + 1) b = a :: l.set i b) :=
  ⟨fun _ _ _ _ => List.setIfInBounds_toArray _ _ _, fun _ _ _ _ => List.set_cons_zero, fun _ _ _ _ _ => List.set_cons_succ⟩
end Go.Proofs.YtppagdmlfgialaaGreat
namespace Go.Proofs.YtppagdmlfgialaaGreat
open Go Go.RowKit
set_option linter.unusedVariables false
set_option linter.unusedSimpArgs false
section
variable {w w' : World} {P : Nat → Prop} {r n gu bu cu gn bn cn : Nat} {U X : Nat → Nat} {F G : Nat → Bool}
set_option maxHeartbeats 4000000 in
theorem rcopy_rm (h : RM w P r n gu bu cu gn bn cn U X) : Calls Tryz.prog 36 #[.pointer (some ⟨r, 0, none⟩)] w fun e w' => ∃ r' g1 b1 c1 g2 b2 c2, e = .returned (.pointer (some ⟨r', 0, none⟩)) ∧ RM w' (fun k => w.heap.size ≤ k) r' n g1 b1 c1 g2 b2 c2 U X ∧ Below w.heap.size w w' := by
  have c0 := h.c0
  go_enter Tryz.func36, Tryz.ntmps36
  go_wp2_with fail
  have S0 : w.drew.cell? ⟨r, 0, none⟩ = some (.pointer (some ⟨gu, 0, none⟩)) ∧ w.drew.cell? ⟨r, 1, none⟩ = some (.pointer (some ⟨gn, 0, none⟩)) ∧ RM w.drew P r n gu bu cu gn bn cn U X ∧ Below w.heap.size w w.drew := ⟨h.c0, h.c1, h.dN 1, (Below.refl _ _).drew⟩
  have HZ : Hid (bitF U 0 = false ∧ bitF X 0 = false ∧ 16 ≤ n) := ⟨h.z.1, h.z.2, h.n16⟩
  clear h c0
  refine wp_region_partsS (fun V => V.cell? ⟨r, 0, none⟩ = some (.pointer (some ⟨gu, 0, none⟩)) ∧ V.cell? ⟨r, 1, none⟩ = some (.pointer (some ⟨gn, 0, none⟩)) ∧ RM V P r n gu bu cu gn bn cn U X ∧ Below w.heap.size w V) [([0, 5], 1, true), ([], 2, true), ([], 3, true), ([], 6, true), ([], 7, true), ([], 8, true), ([], 4, false), ([], 9, false), ([], 10, false), ([], 11, false)] [12] [] (by kernel_rfl) (by kernel_rfl) S0 (partsI_yield ?_)
  simp only [sgLHCmMaps]
  go_wp2_with fail
  refine ⟨rfl, _, .pointer (some ⟨r, 0, none⟩), rfl, Or.inl ⟨by rfl, fun W hW => by go_simp⟩, partsI_yield ?_⟩
  simp only [Act.put, sgPHCmMaps]
  simp only [sgLHCmMaps]
  go_wp2_with fail
  refine ⟨rfl, _, .pointer (some ⟨r, 0, none⟩), rfl, Or.inl ⟨by rfl, fun W hW => by go_simp⟩, partsI_yield ?_⟩
  simp only [Act.put, sgPHCmMaps]
  simp only [sgLHCmMaps]
  go_wp2_with fail
  refine ⟨rfl, _, .pointer (some ⟨gu, 0, none⟩), rfl, Or.inl ⟨by rfl, fun W hW => by have c0 := hW.1; go_simp⟩, partsI_yield ?_⟩
  simp only [Act.put, sgPHCmMaps]
  simp only [sgLHCmMaps]
  go_wp2_with fail
  refine ⟨rfl, _, .pointer (some ⟨r, 0, none⟩), rfl, Or.inl ⟨by rfl, fun W hW => by go_simp⟩, partsI_yield ?_⟩
  simp only [Act.put, sgPHCmMaps]
  simp only [sgLHCmMaps]
  go_wp2_with fail
  refine ⟨rfl, _, .pointer (some ⟨r, 1, none⟩), rfl, Or.inl ⟨by rfl, fun W hW => by go_simp⟩, partsI_yield ?_⟩
  simp only [Act.put, sgPHCmMaps]
  simp only [sgLHCmMaps]
  go_wp2_with fail
  refine ⟨rfl, _, .pointer (some ⟨gn, 0, none⟩), rfl, Or.inl ⟨by rfl, fun W hW => by have c1 := hW.2.1; go_simp⟩, partsI_force ?_⟩
  simp only [Act.put, sgPHCmMaps]
  simp only [sgLHCmMaps]
  go_wp2_with fail
  refine (bclone_any _ S0.2.2.1.u).mono ?_
  rintro e w2 ⟨g1, b1, c1, rfl, hM1, hb1⟩
  have S1 : w2.cell? ⟨r, 0, none⟩ = some (.pointer (some ⟨gu, 0, none⟩)) ∧ w2.cell? ⟨r, 1, none⟩ = some (.pointer (some ⟨gn, 0, none⟩)) ∧ RM w2 P r n gu bu cu gn bn cn U X ∧ Below w.heap.size w w2 := ⟨(S0.2.2.1.below hb1).c0, (S0.2.2.1.below hb1).c1, S0.2.2.1.below hb1, S0.2.2.2.trans (hb1.mono S0.2.2.2.size)⟩
  have HM1 : Hid (BM w2 w.drew.heap.size g1 n b1 c1 U) := hM1
  clear hM1
  go_wp2_with fail
  refine ⟨rfl, S1, partsI_force ?_⟩
  simp only [sgLHCmMaps]
  go_wp2_with fail
  refine (bclone_any _ S1.2.2.1.x).mono ?_
  rintro e w3 ⟨g2, b2, c2, rfl, hM2, hb2⟩
  have S2 : w3.cell? ⟨r, 0, none⟩ = some (.pointer (some ⟨gu, 0, none⟩)) ∧ w3.cell? ⟨r, 1, none⟩ = some (.pointer (some ⟨gn, 0, none⟩)) ∧ RM w3 P r n gu bu cu gn bn cn U X ∧ Below w.heap.size w w3 := ⟨(S1.2.2.1.below hb2).c0, (S1.2.2.1.below hb2).c1, S1.2.2.1.below hb2, S1.2.2.2.trans (hb2.mono S1.2.2.2.size)⟩
  have HM2 : Hid (BM w3 w2.heap.size g2 n b2 c2 X ∧ BM w3 w.drew.heap.size g1 n b1 c1 U ∧ g1 < w2.heap.size ∧ b1 < w2.heap.size) := ⟨hM2, HM1.out.below hb2, HM1.out.glt, HM1.out.blt.2⟩
  have hs2 := hb1.size
  clear hM2
  go_wp2_with fail
  refine ⟨rfl, S2, partsI_force ?_⟩
  simp only [sgLHCmMaps]
  go_wp2_with fail
  refine ⟨rfl, S2, partsI_force ?_⟩
  simp only [sgLHCmMaps]
  go_wp2_with fail
  refine ⟨rfl, ⟨(S2.2.2.1.below (below_new1 _ _)).c0, (S2.2.2.1.below (below_new1 _ _)).c1, S2.2.2.1.below (below_new1 _ _), S2.2.2.2.trans ((below_new1 _ _).mono S2.2.2.2.size)⟩, partsI_last ?_⟩
  simp only [sgLHCmMaps]
  go_wp2_with fail
  refine ⟨rfl, ?_⟩
  go_wp2_with fail
  go_ret
  obtain ⟨hM2, hM1, hg1, hb1'⟩ := HM2.out
  have q1 : w.heap.size ≤ g1 := hM1.gB
  have q2 : w.heap.size ≤ b1 := hM1.blt.1
  have q3 := hM2.gB
  have q4 := hM2.blt
  have q5 := hM2.glt
  have q6 := hM2.ne
  have q7 := hM1.ne
  have q8 : w.heap.size ≤ w2.heap.size := hs2
  have hba : Below w3.heap.size w3 (w3.alloc (.cells #[.pointer (some ⟨g1, 0, none⟩), .pointer (some ⟨g2, 0, none⟩)] 169)) := below_new1 _ _
  exact ⟨w3.heap.size, g1, b1, c1, g2, b2, c2, rfl, ⟨Blk.new _ _ _, (hM1.mono (Nat.zero_le _)).below hba, (hM2.mono (Nat.zero_le _)).below hba, ⟨by show w.heap.size ≤ _; omega, q1, q2, by show w.heap.size ≤ _; omega, by show w.heap.size ≤ _; omega⟩, ⟨by omega, by omega, by omega, by omega, by omega, by omega, by omega, by omega⟩, ⟨HZ.out.1, HZ.out.2.1⟩, HZ.out.2.2⟩, S2.2.2.2.trans (hba.mono S2.2.2.2.size)⟩
theorem rcopy_any (h : RoomIs w P r n F G) : Calls Tryz.prog 36 #[.pointer (some ⟨r, 0, none⟩)] w fun e w' => ∃ r', e = .returned (.pointer (some ⟨r', 0, none⟩)) ∧ RoomIs w' (fun k => w.heap.size ≤ k) r' n F G ∧ Below w.heap.size w w' := by
  obtain ⟨gu, bu, cu, gn, bn, cn, U, X, hR, hF, hG⟩ := h
  refine (rcopy_rm hR).mono ?_
  rintro e w' ⟨r', g1, b1, c1, g2, b2, c2, rfl, hR', hb⟩
  exact ⟨r', rfl, ⟨g1, b1, c1, g2, b2, c2, U, X, hR', hF, hG⟩, hb⟩
end
end Go.Proofs.YtppagdmlfgialaaGreat

namespace Go.Proofs.YtppagdmlfgialaaGreat
open Go Go.RowKit
set_option linter.unusedSimpArgs false
set_option linter.unusedVariables false
section
variable {rp cp mp xp q : Option Addr} {s : Sl} {x : Sup} {n c : Nat} {w : World} {st : Nat}
theorem st_root (h : Blk w st 103 (stC rp cp s x mp xp q n c false)) : w.rangeAt st 36 ((List.range 72).map (suF x)) := by
  have := Blk.range (n := 112) (f := stF rp cp s x mp xp q n c false) h 36 72 (by decide)
  rw [show ((List.range 72).map fun j => stF rp cp s x mp xp q n c false (36 + j)) = (List.range 72).map (suF x) from List.map_congr_left fun j hj => ?_] at this
  · exact this
  · have hj := List.mem_range.1 hj
    unfold stF
    rw [if_neg (by omega), if_neg (by omega), if_neg (by omega), if_pos (by omega), show 36 + j - 36 = j by omega]
set_option maxRecDepth 100000 in
set_option maxHeartbeats 16000000 in
theorem stRoot_at (w : World) (h : Blk w st 103 (stC rp cp s x mp xp q n c false)) : Calls Tryz.prog 11 #[.pointer (some ⟨st, 0, none⟩)] w fun e w' => e = .returned (.agg (suC x)) ∧ Below w.heap.size w w' := by
  have hz := zero_sup
  have r0 : Blk (w.alloc (.cells (suC su0) 53)) w.heap.size 53 (suC su0) := Blk.new _ _ _
  have hb : Below w.heap.size w (w.alloc (.cells (suC su0) 53)) := below_new1 _ _
  have HR : Hid ((w.alloc (.cells (suC su0) 53)).rangeAt st 36 ((List.range 72).map (suF x))) := st_root (h.alloc _)
  go_enter Tryz.func11, Tryz.ntmps11
  go_wp2_with (first
    | (refine wpList_load_blk (by rfl) 53 _ (by rfl) (st) (36) 72 (suF x) (by rfl) _ (by exact HR.out) Tryz.underlying53 rfl sizeSup ?_; simp only [Act.put, sgPHCmMaps])
    | (refine wpList_store_row (by rfl) 53 _ _ (by rfl) (w.heap.size) (suC x) (by rfl) (by rfl) 53 (_) (by exact r0) (sizeSup.trans (by rw [suC_size])) (by simp only [suC_size]) (suC_all _) ?_; simp only [Act.put, sgPHCmMaps])
    | fail)
  try simp only [Exit.inBlock, Exit.then]
  refine bodyPost_ret (results_cell1 Tryz.results11 _ _ w.heap.size 53 (suC x) (0, 0) _ rfl (r0.set _) Tryz.underlying53 rfl (sizeSup.trans (by rw [suC_size]))) rfl ?_
  exact ⟨rfl, below_setRow hb (Nat.le_refl _) _⟩
set_option maxRecDepth 100000 in
set_option maxHeartbeats 16000000 in
theorem stCache_at (w : World) (h : Blk w st 103 (stC rp cp s x mp xp q n c false)) : Calls Tryz.prog 9 #[.pointer (some ⟨st, 0, none⟩)] w fun e w' => e = .returned (.pointer cp) ∧ w = w' := by
  have c2 : w.cell? ⟨st, 1, none⟩ = some (.pointer cp) := (h.cell 1).trans (va_at (stF rp cp s x mp xp q n c false) (by decide))
  clear h
  go_enter Tryz.func9, Tryz.ntmps9
  go_wp2_with fail
  go_ret
  exact ⟨rfl, rfl⟩
set_option maxRecDepth 100000 in
set_option maxHeartbeats 16000000 in
theorem stKeep_none (w : World) : Calls Tryz.prog 14 #[.pointer (some ⟨st, 0, none⟩), .pointer none] w fun e w' => e = .returned (.int .i64 1) ∧ w = w' := by
  go_enter Tryz.func14, Tryz.ntmps14
  go_wp2_with fail
  go_ret
  exact ⟨rfl, rfl⟩
set_option maxRecDepth 100000 in
set_option maxHeartbeats 16000000 in
theorem stRoom_at {P : Nat → Prop} {rm N : Nat} {F G : Nat → Bool} (w : World) (h : Blk w st 103 (stC rp cp s x (some ⟨rm, 0, none⟩) xp q n c false)) (hr : RoomIs w P rm N F G) : Calls Tryz.prog 12 #[.pointer (some ⟨st, 0, none⟩)] w fun e w' => ∃ r', e = .returned (.pointer (some ⟨r', 0, none⟩)) ∧ RoomIs w' (fun k => w.heap.size ≤ k) r' N F G ∧ Below w.heap.size w w' := by
  have c2 : w.cell? ⟨st, 108, none⟩ = some (.pointer (some ⟨rm, 0, none⟩)) := (h.cell 108).trans (va_at (stF rp cp s x (some ⟨rm, 0, none⟩) xp q n c false) (by decide))
  have HC : Hid (Calls Tryz.prog 36 #[.pointer (some ⟨rm, 0, none⟩)] w fun e w' => ∃ r', e = .returned (.pointer (some ⟨r', 0, none⟩)) ∧ RoomIs w' (fun k => w.heap.size ≤ k) r' N F G ∧ Below w.heap.size w w') := rcopy_any hr
  clear h hr
  go_enter Tryz.func12, Tryz.ntmps12
  go_wp2_with fail
  refine (HC.out).mono ?_
  rintro e w1 ⟨r', rfl, h1, h2⟩
  go_wp2_with fail
  go_ret
  exact ⟨r', rfl, h1, h2⟩
end
end Go.Proofs.YtppagdmlfgialaaGreat

namespace Go.Proofs.YtppagdmlfgialaaGreat
open Go Go.RowKit
set_option linter.unusedSimpArgs false
set_option linter.unusedVariables false
/-- what a map has above a level of l blocks -/
def mpLv (l : Int) : Int := if l ≤ 1 then 0 else if l ≤ 4 then 1 else 3
/-- how many blocks a map has -/
def mpN (b : Int) : Int := (b + 1023) / 1024 + mpLv ((b + 1023) / 1024)
theorem mpLv_one : mpLv 1 = 0 := rfl
theorem mpLv_le (l : Int) : 0 ≤ mpLv l ∧ mpLv l ≤ 3 := by
  unfold mpLv
  repeat' split
  all_goals omega
theorem mpLv_step (l : Int) (h1 : 1 < l) (h8 : l ≤ 8) : (l + 3) / 4 + mpLv ((l + 3) / 4) = mpLv l ∧ 1 ≤ (l + 3) / 4 ∧ (l + 3) / 4 < l := by
  unfold mpLv
  repeat' split
  all_goals omega
set_option maxRecDepth 100000 in
set_option maxHeartbeats 8000000 in
theorem cMap_any (b : Int) (w : World) : Calls Tryz.prog 4 #[.int .i64 b] w fun e w' => e = .returned (.tuple #[.int .i64 (if rBl b = true then mpN b else 0), .int .i64 (if rBl b = true then 0 else 1)]) ∧ w' = w := by
  by_cases hr : rBl b = true
  · have HM : Hid (∀ w : World, Calls Tryz.prog 15 #[.int .i64 b] w fun e w' => e = .returned (.tuple #[.int .i64 ((b + 1023) / 1024), .int .i64 0]) ∧ w' = w) := fun w => by
      have := mapLeaves_any b w
      rw [if_pos hr, if_pos hr] at this
      exact this
    have hb := (rBl_iff b).1 hr
    rw [if_pos hr, if_pos hr]
    have HL : Hid (1 ≤ (b + 1023) / 1024 ∧ (b + 1023) / 1024 ≤ 8 ∧ mpN b = (b + 1023) / 1024 + mpLv ((b + 1023) / 1024)) := ⟨by omega, by omega, rfl⟩
    clear hb hr
    generalize (b + 1023) / 1024 = L at *
    generalize mpN b = M at *
    go_enter Tryz.func4, Tryz.ntmps4
    go_wp2_with fail
    refine (HM.out w).mono ?_
    rintro e w1 ⟨rfl, rfl⟩
    clear HM
    go_wp2_with fail
    go_loopw [4, 6] (fun v4 v6 wr => Hid (∃ l a : Int, wr = w1 ∧ v4 = .int .i64 l ∧ v6 = .int .i64 a ∧ Hid (1 ≤ l ∧ l ≤ 8 ∧ 0 ≤ a ∧ a ≤ 20 ∧ a + mpLv l = M))) (fun v4 _ _ => (intOf v4).toNat)
    case atStart => exact ⟨L, L, rfl, rfl, rfl, ⟨HL.out.1, HL.out.2.1, by have := HL.out; omega, by have := HL.out; omega, HL.out.2.2.symm⟩⟩
    case round =>
      obtain ⟨l, a, rfl, rfl, rfl, HR⟩ := Hid.out hrel
      clear hrel
      by_cases hl : 1 < l
      · obtain ⟨l', hl'⟩ : ∃ l', l' = (l + 3) / 4 := ⟨_, rfl⟩
        have HS := mpLv_step l hl HR.out.2.1
        rw [← hl'] at HS
        have hw1 : wrap64 (l + 4) = l + 4 := wrap64_at _ (by have := HR.out; omega)
        have hw2 : wrap64 (l + 4 - 1) = l + 4 - 1 := wrap64_at _ (by have := HR.out; omega)
        have hq : (l + 4 - 1).tdiv 4 = l' := by
          rw [Int.tdiv_eq_ediv_of_nonneg (by omega)]
          omega
        have hw4 : wrap64 l' = l' := wrap64_at _ (by have := HR.out; omega)
        have hw3 : wrap64 (a + l') = a + l' := wrap64_at _ (by have := HR.out; omega)
        have HS2 : Hid (l' + mpLv l' = mpLv l ∧ 1 ≤ l' ∧ l' < l) := HS
        clear HS hl'
        go_wp2_with fail
        refine ⟨⟨l', a + l', by first | rfl | trivial, by first | rfl | trivial | simp [hw1, hw2, hq, hw4], by first | rfl | trivial | simp [hw1, hw2, hq, hw3, hw4], ⟨by have := HS2.out; omega, by have := HS2.out; have := HR.out; omega, by have := HS2.out; have := HR.out; omega, ?_, by have := HS2.out; have := HR.out; omega⟩⟩, ?_⟩
        · have h1 := HS2.out
          have h2 := HR.out
          have h3 := mpLv_le l
          have h4 := mpLv_le l'
          have h5 : M ≤ 20 := by
            have := HL.out
            have h6 := mpLv_le L
            omega
          omega
        · have h1 := HS2.out
          simp [intOf, hw1, hw2, hq, hw4]
          omega
      · obtain rfl : l = 1 := by have := HR.out; omega
        go_wp2_with fail
        go_ret2
        refine ⟨?_, rfl⟩
        have h1 := HR.out
        rw [mpLv_one] at h1
        rw [← h1.2.2.2.2]
        simp
  · have hf : rBl b = false := Bool.eq_false_iff.2 hr
    have HM : Hid (∀ w : World, Calls Tryz.prog 15 #[.int .i64 b] w fun e w' => e = .returned (.tuple #[.int .i64 0, .int .i64 200]) ∧ w' = w) := fun w => by
      have := mapLeaves_any b w
      rw [if_neg hr, if_neg hr] at this
      exact this
    rw [if_neg hr, if_neg hr]
    clear hr hf
    go_enter Tryz.func4, Tryz.ntmps4
    go_wp2_with fail
    refine (HM.out w).mono ?_
    rintro e w1 ⟨rfl, rfl⟩
    clear HM
    go_wp2_with fail
    go_ret2
    exact ⟨rfl, rfl⟩
set_option maxRecDepth 100000 in
set_option maxHeartbeats 8000000 in
theorem map21_any (b : Int) (h1 : 16 ≤ b) (h2 : b ≤ 8192) (w : World) : Calls Tryz.prog 7 #[.int .i64 b] w fun e w' => e = .returned (.int .i64 (mpN b)) ∧ w' = w := by
  have hw : wrap64 (b + 1023) = b + 1023 := wrap64_at _ (by omega)
  have hq0 : (b + 1023).tdiv 1024 = (b + 1023) / 1024 := Int.tdiv_eq_ediv_of_nonneg (by omega)
  have HL : Hid (1 ≤ (b + 1023) / 1024 ∧ (b + 1023) / 1024 ≤ 8 ∧ mpN b = (b + 1023) / 1024 + mpLv ((b + 1023) / 1024)) := ⟨by omega, by omega, rfl⟩
  clear h1 h2
  generalize (b + 1023) / 1024 = L at *
  generalize mpN b = M at *
  have hw0 : wrap64 L = L := wrap64_at _ (by have := HL.out; omega)
  go_enter Tryz.func7, Tryz.ntmps7
  go_wp2_with fail
  go_loopw [3, 4] (fun v3 v4 wr => Hid (∃ l a : Int, wr = w ∧ v3 = .int .i64 l ∧ v4 = .int .i64 a ∧ Hid (1 ≤ l ∧ l ≤ 8 ∧ 0 ≤ a ∧ a ≤ 20 ∧ a + mpLv l = M))) (fun v3 _ _ => (intOf v3).toNat)
  case atStart => exact ⟨L, L, rfl, by first | rfl | simp [hw, hq0, hw0], by first | rfl | simp [hw, hq0, hw0], ⟨HL.out.1, HL.out.2.1, by have := HL.out; omega, by have := HL.out; omega, HL.out.2.2.symm⟩⟩
  case round =>
    obtain ⟨l, a, rfl, rfl, rfl, HR⟩ := Hid.out hrel
    clear hrel
    clear hw hq0 hw0
    by_cases hl : 1 < l
    · obtain ⟨l', hl'⟩ : ∃ l', l' = (l + 3) / 4 := ⟨_, rfl⟩
      have HS := mpLv_step l hl HR.out.2.1
      rw [← hl'] at HS
      have hw1 : wrap64 (l + 3) = l + 3 := wrap64_at _ (by have := HR.out; omega)
      have hq : (l + 3).tdiv 4 = l' := by
        rw [Int.tdiv_eq_ediv_of_nonneg (by omega)]
        omega
      have hw4 : wrap64 l' = l' := wrap64_at _ (by have := HR.out; omega)
      have hw3 : wrap64 (a + l') = a + l' := wrap64_at _ (by have := HR.out; omega)
      have HS2 : Hid (l' + mpLv l' = mpLv l ∧ 1 ≤ l' ∧ l' < l) := HS
      clear HS hl'
      go_wp2_with fail
      refine ⟨⟨l', a + l', by first | rfl | trivial, by first | rfl | trivial | simp [hw1, hq, hw4], by first | rfl | trivial | simp [hw1, hq, hw3, hw4], ⟨by have := HS2.out; omega, by have := HS2.out; have := HR.out; omega, by have := HS2.out; have := HR.out; omega, ?_, by have := HS2.out; have := HR.out; omega⟩⟩, ?_⟩
      · have h1 := HS2.out
        have h2 := HR.out
        have h4 := mpLv_le l'
        have h5 : M ≤ 20 := by
          have := HL.out
          have h6 := mpLv_le L
          omega
        omega
      · have h1 := HS2.out
        simp [intOf, hw1, hq, hw4]
        omega
    · obtain rfl : l = 1 := by have := HR.out; omega
      go_wp2_with fail
      go_ret
      refine ⟨?_, rfl⟩
      have h1 := HR.out
      rw [mpLv_one] at h1
      rw [← h1.2.2.2.2]
      simp
set_option maxRecDepth 100000 in
set_option maxHeartbeats 8000000 in
theorem commitNew_nil1 (rg c r xg : Nat) (s : Sl) (x : Sup) (w : World) : Calls Tryz.prog 8 #[.pointer (none), .pointer (some ⟨c, 0, none⟩), .agg (slC s), .agg (suC x), .pointer (some ⟨r, 0, none⟩), .pointer (some ⟨xg, 0, none⟩)] w fun e w' => e = .returned (.tuple #[.pointer none, .int .i64 1]) ∧ Below w.heap.size w w' := by
  have HB : Hid (Below w.heap.size w ((w.alloc (.cells (slC s) 48)).alloc (.cells (suC x) 53))) := below_new2 _ _ _
  go_enter Tryz.func8, Tryz.ntmps8
  go_wp2_with fail
  go_ret2
  exact ⟨rfl, HB.out⟩
set_option maxRecDepth 100000 in
set_option maxHeartbeats 8000000 in
theorem commitNew_nil2 (rg c r xg : Nat) (s : Sl) (x : Sup) (w : World) : Calls Tryz.prog 8 #[.pointer (some ⟨rg, 0, none⟩), .pointer (none), .agg (slC s), .agg (suC x), .pointer (some ⟨r, 0, none⟩), .pointer (some ⟨xg, 0, none⟩)] w fun e w' => e = .returned (.tuple #[.pointer none, .int .i64 1]) ∧ Below w.heap.size w w' := by
  have HB : Hid (Below w.heap.size w ((w.alloc (.cells (slC s) 48)).alloc (.cells (suC x) 53))) := below_new2 _ _ _
  go_enter Tryz.func8, Tryz.ntmps8
  go_wp2_with fail
  go_ret2
  exact ⟨rfl, HB.out⟩
set_option maxRecDepth 100000 in
set_option maxHeartbeats 8000000 in
theorem commitNew_nil3 (rg c r xg : Nat) (s : Sl) (x : Sup) (w : World) : Calls Tryz.prog 8 #[.pointer (some ⟨rg, 0, none⟩), .pointer (some ⟨c, 0, none⟩), .agg (slC s), .agg (suC x), .pointer (none), .pointer (some ⟨xg, 0, none⟩)] w fun e w' => e = .returned (.tuple #[.pointer none, .int .i64 1]) ∧ Below w.heap.size w w' := by
  have HB : Hid (Below w.heap.size w ((w.alloc (.cells (slC s) 48)).alloc (.cells (suC x) 53))) := below_new2 _ _ _
  go_enter Tryz.func8, Tryz.ntmps8
  go_wp2_with fail
  go_ret2
  exact ⟨rfl, HB.out⟩
set_option maxRecDepth 100000 in
set_option maxHeartbeats 8000000 in
theorem commitNew_nil4 (rg c r xg : Nat) (s : Sl) (x : Sup) (w : World) : Calls Tryz.prog 8 #[.pointer (some ⟨rg, 0, none⟩), .pointer (some ⟨c, 0, none⟩), .agg (slC s), .agg (suC x), .pointer (some ⟨r, 0, none⟩), .pointer (none)] w fun e w' => e = .returned (.tuple #[.pointer none, .int .i64 1]) ∧ Below w.heap.size w w' := by
  have HB : Hid (Below w.heap.size w ((w.alloc (.cells (slC s) 48)).alloc (.cells (suC x) 53))) := below_new2 _ _ _
  go_enter Tryz.func8, Tryz.ntmps8
  go_wp2_with fail
  go_ret2
  exact ⟨rfl, HB.out⟩
set_option maxRecDepth 100000 in
set_option maxHeartbeats 8000000 in
theorem rightRoom_no {P : Nat → Prop} {r n u : Nat} {F G : Nat → Bool} (x : Sup) (hb : x.b = (n : Int)) (hu : x.u ≠ (u : Int)) (h2 : cntF (qinF F G n 2) n = u) (w : World) (hr : RoomIs w P r n F G) : Calls Tryz.prog 34 #[.pointer (some ⟨r, 0, none⟩), .agg (suC x)] w fun e w' => e = .returned (.bool false) ∧ Below w.heap.size w w' := by
  have hS0 : Blk (w.alloc (.cells (suC x) 53)) w.heap.size 53 (suC x) ∧ RoomIs (w.alloc (.cells (suC x) 53)) P r n F G ∧ Below w.heap.size w (w.alloc (.cells (suC x) 53)) := ⟨Blk.new _ _ _, hr.below (below_new1 _ _), below_new1 _ _⟩
  have HN : Hid (x.b = (n : Int) ∧ x.u ≠ (u : Int) ∧ cntF (qinF F G n 2) n = u) := ⟨hb, hu, h2⟩
  have hne : ¬ (u : Int) = x.u := fun e => hu e.symm
  have HBl : Hid (∀ W, RoomIs W P r n F G → Calls Tryz.prog 64 #[.pointer (some ⟨r, 0, none⟩)] W fun e w' => e = .returned (.int .i64 (n : Int)) ∧ Below W.heap.size W w') := fun W hW => by
    obtain ⟨gu, bu, cu, gn, bn, cn, U, X, h, _⟩ := hW
    exact (rblocks_any h).mono fun e w' ⟨e1, m, e2⟩ => ⟨e1, e2 ▸ gbelow_drewN (Below.refl _ _) m⟩
  clear hb hu h2 hr
  go_enter Tryz.func34, Tryz.ntmps34
  go_wp2_with fail
  generalize (w.alloc (.cells (suC x) 53)) = w1 at *
  have hS : Blk w1.drew w.heap.size 53 (suC x) ∧ RoomIs w1.drew P r n F G ∧ Below w.heap.size w w1.drew := ⟨hS0.1, hS0.2.1.below (Below.refl _ _).drew, hS0.2.2.drew⟩
  clear hS0
  refine wp_region_partsS (fun W => Blk W w.heap.size 53 (suC x) ∧ RoomIs W P r n F G ∧ Below w.heap.size w W) [([0], 2, true), ([], 3, true), ([], 1, false), ([], 4, false), ([5, 6], 8, true), ([], 9, true), ([], 7, false), ([], 10, false), ([11, 12, 13], 14, false), ([], 15, false)] [16, 17] [] (by kernel_rfl) (by kernel_rfl) hS ?_
  refine partsI_yield ?_
  simp only [sgLHCmMaps]
  go_wp2_with fail
  refine ⟨rfl, _, .pointer (some ⟨w.heap.size, 0, none⟩), rfl, Or.inl ⟨by rfl, fun W hW => by go_simp⟩, ?_⟩
  simp only [Act.put, sgPHCmMaps]
  refine partsI_yield0 (v := .int .i64 (n : Int)) (by simp only [List.getElem?_toArray, List.getElem?_cons_zero, List.getElem?_cons_succ]; rfl) ?_ ?_
  · exact Or.inl ⟨by rfl, fun W hW => by have hc := sup_c0 hW.1; rw [HN.out.1] at hc; go_simp⟩
  simp only [Act.put, sgPHCmMaps]
  refine partsI_force ?_
  simp only [sgLHCmMaps]
  refine wpList_hideY (by rfl) fun K QQ hK => ?_
  go_wp2_with fail
  refine (HBl.out _ hS.2.1).mono ?_
  rintro e w3 ⟨rfl, hb3⟩
  have hS3 : Blk w3 w.heap.size 53 (suC x) ∧ RoomIs w3 P r n F G ∧ Below w.heap.size w w3 := ⟨hS.1.below hb3 hS.1.lt, hS.2.1.below hb3, hS.2.2.trans (hb3.mono hS.2.2.size)⟩
  clear hb3
  go_wp2_with fail
  refine ⟨rfl, hS3, ?_⟩
  refine partsI_force ?_
  simp only [sgLHCmMaps]
  go_wp2_with fail
  refine ⟨rfl, hS3, ?_⟩
  refine partsI_yield ?_
  simp only [sgLHCmMaps]
  go_wp2_with fail
  refine ⟨rfl, _, .pointer (some ⟨w.heap.size, 71, none⟩), rfl, Or.inl ⟨by rfl, fun W hW => by go_simp⟩, ?_⟩
  simp only [Act.put, sgPHCmMaps]
  refine partsI_yield0 (v := .int .i64 x.u) (by simp only [List.getElem?_toArray, List.getElem?_cons_zero, List.getElem?_cons_succ]; rfl) ?_ ?_
  · exact Or.inl ⟨by rfl, fun W hW => by have hc := sup_c71 hW.1; go_simp⟩
  simp only [Act.put, sgPHCmMaps]
  refine partsI_force ?_
  simp only [sgLHCmMaps]
  refine wpList_hideY (by rfl) fun K QQ hK => ?_
  go_wp2_with fail
  refine (rcountR_any hS3.2.1 2).mono ?_
  rw [HN.out.2.2]
  rintro e w4 ⟨rfl, hb4⟩
  have hS4 : Blk w4 w.heap.size 53 (suC x) ∧ RoomIs w4 P r n F G ∧ Below w.heap.size w w4 := ⟨hS3.1.below hb4 hS3.1.lt, hS3.2.1.below hb4, hS3.2.2.trans (hb4.mono hS3.2.2.size)⟩
  clear hb4
  go_wp2_with fail
  refine ⟨rfl, hS4, ?_⟩
  refine partsI_force ?_
  simp only [sgLHCmMaps]
  go_wp2_with fail
  refine ⟨rfl, hS4, ?_⟩
  refine partsI_force ?_
  simp only [sgLHCmMaps]
  go_wp2_with fail
  refine ⟨rfl, hS4, ?_⟩
  refine partsI_force ?_
  simp only [sgLHCmMaps]
  go_wp2_with fail
  refine ⟨rfl, hS4, ?_⟩
  refine partsI_last ?_
  simp only [sgLHCmMaps]
  go_wp2_with fail
  refine ⟨rfl, ?_⟩
  go_wp2_with fail
  go_ret
  exact ⟨rfl, hS4.2.2⟩
set_option maxRecDepth 100000 in
set_option maxHeartbeats 8000000 in
theorem commitNew_unfit {P : Nat → Prop} {B dg Nn k lg : Nat} {D : Nat → Nat} {qd : QD} {lp o nn : Option Addr} {room h rr bb cn : Int} {r n u c mc : Nat} {F G : Nat → Bool} (s : Sl) (hs : s.2.1 < 4294967296) (x : Sup) (hx : SuW x) (hb : x.b = (n : Int)) (hN : Nn = n) (hn : n ≤ 8192) (hft : fitS x s.1 s.2.1 (n : Int) = false) (h2 : cntF (qinF F G n 2) n = u) (rg xg : Nat) (w : World) (hr : RoomIs w P r n F G) (hc : Blk w c 142 (caC (some ⟨dg, 0, none⟩) lp room mc o nn h rr bb cn)) (hd : DiskQ w B dg Nn D k lg qd) : Calls Tryz.prog 8 #[.pointer (some ⟨rg, 0, none⟩), .pointer (some ⟨c, 0, none⟩), .agg (slC s), .agg (suC x), .pointer (some ⟨r, 0, none⟩), .pointer (some ⟨xg, 0, none⟩)] w fun e w' => e = .returned (.tuple #[.pointer none, .int .i64 1]) ∧ Below w.heap.size w w' := by
  subst hN
  have hb2 : Below w.heap.size w ((w.alloc (.cells (slC s) 48)).alloc (.cells (suC x) 53)) := below_new2 _ _ _
  have hS0 : Blk ((w.alloc (.cells (slC s) 48)).alloc (.cells (suC x) 53)) w.heap.size 48 (slC s) ∧ Blk ((w.alloc (.cells (slC s) 48)).alloc (.cells (suC x) 53)) (w.heap.size + 1) 53 (suC x) ∧ Below w.heap.size w ((w.alloc (.cells (slC s) 48)).alloc (.cells (suC x) 53)) := ⟨(Blk.new _ _ _).alloc _, Blk.new1 _ _ _ _, hb2⟩
  have HDk : Hid (∀ W, Below w.heap.size w W → Calls Tryz.prog 32 #[.pointer (some ⟨c, 0, none⟩)] W fun e w' => e = .returned (.pointer (some ⟨dg, 0, none⟩)) ∧ W = w') := fun W hW => caDisk_at c _ lp room mc o nn h rr bb cn W (hc.below hW hc.lt)
  have HBk : Hid (∀ W, Below w.heap.size w W → Calls Tryz.prog 33 #[.pointer (some ⟨dg, 0, none⟩)] W fun e w' => e = .returned (.int .i64 (Nn : Int)) ∧ W = w') := fun W hW => blocks_q W (hd.below hW)
  have HFt : Hid (∀ W, Calls Tryz.prog 31 #[.agg (suC x), .agg (slC s), .int .i64 (Nn : Int)] W fun e w' => e = .returned (.bool false) ∧ Below W.heap.size W w') := fun W => by
    have := sfits_any x hx s.1 s.2.1 s.2.2 hs (Nn : Int) (by omega) W
    rw [hft] at this
    exact this
  clear hs hx hb hn hft h2 hr hc hd hb2
  go_enter Tryz.func8, Tryz.ntmps8
  go_wp2_with fail
  generalize ((w.alloc (.cells (slC s) 48)).alloc (.cells (suC x) 53)) = w1 at *
  have hS : Blk w1.drew w.heap.size 48 (slC s) ∧ Blk w1.drew (w.heap.size + 1) 53 (suC x) ∧ Below w.heap.size w w1.drew := ⟨hS0.1, hS0.2.1, hS0.2.2.drew⟩
  clear hS0
  refine wp_region_partsS (fun W => Blk W w.heap.size 48 (slC s) ∧ Blk W (w.heap.size + 1) 53 (suC x) ∧ Below w.heap.size w W) [([2], 0, true), ([], 1, true), ([], 3, false), ([], 4, false), ([], 5, false), ([], 6, true), ([], 7, true), ([], 8, true), ([], 9, true), ([], 10, false)] [11, 12] [] (by kernel_rfl) (by kernel_rfl) hS ?_
  refine partsI_yield ?_
  simp only [sgLHCmMaps]
  go_wp2_with fail
  refine ⟨rfl, _, .agg (suC x), rfl, yieldsIf_row (by rfl) 53 _ (by rfl) (w.heap.size + 1) (by rfl) 53 (suC x) (fun W hW => hW.2.1) Tryz.underlying53 rfl (sizeSup.trans (by rw [suC_size])), ?_⟩
  simp only [Act.put, sgPHCmMaps]
  refine partsI_yield0 (v := .agg (slC s)) (by simp only [List.getElem?_toArray, List.getElem?_cons_zero, List.getElem?_cons_succ]; rfl) ?_ ?_
  · exact yieldsIf_row (by rfl) 48 _ (by rfl) (w.heap.size) (by rfl) 48 (slC s) (fun W hW => hW.1) Tryz.underlying48 rfl (sizeSlot.trans (by rw [slC_size]))
  simp only [Act.put, sgPHCmMaps]
  refine partsI_force ?_
  simp only [sgLHCmMaps]
  refine wpList_hideY (by rfl) fun K QQ hK => ?_
  go_wp2_with fail
  refine (HDk.out _ hS.2.2).mono ?_
  rintro e _ ⟨rfl, rfl⟩
  go_wp2_with fail
  refine ⟨rfl, hS, ?_⟩
  refine partsI_force ?_
  simp only [sgLHCmMaps]
  refine wpList_hideY (by rfl) fun K QQ hK => ?_
  go_wp2_with fail
  refine (HBk.out _ hS.2.2).mono ?_
  rintro e _ ⟨rfl, rfl⟩
  go_wp2_with fail
  refine ⟨rfl, hS, ?_⟩
  refine partsI_force ?_
  simp only [sgLHCmMaps]
  refine wpList_hideY (by rfl) fun K QQ hK => ?_
  go_wp2_with fail
  refine (HFt.out _).mono ?_
  rintro e w3 ⟨rfl, hb3⟩
  have hS3 : Blk w3 w.heap.size 48 (slC s) ∧ Blk w3 (w.heap.size + 1) 53 (suC x) ∧ Below w.heap.size w w3 := ⟨hS.1.below hb3 hS.1.lt, hS.2.1.below hb3 hS.2.1.lt, hS.2.2.trans (hb3.mono hS.2.2.size)⟩
  clear hb3
  go_wp2_with fail
  refine ⟨rfl, hS3, ?_⟩
  refine partsI_yield0 (v := .bool true) (by simp only [List.getElem?_toArray, List.getElem?_cons_zero, List.getElem?_cons_succ]; rfl) ?_ ?_
  · exact Or.inl ⟨by rfl, fun W hW => by go_simp⟩
  simp only [Act.put, sgPHCmMaps]
  refine partsI_yield0 (v := .bool true) (by simp only [List.getElem?_toArray, List.getElem?_cons_zero, List.getElem?_cons_succ]; rfl) ?_ ?_
  · exact Or.inl ⟨by rfl, fun W hW => by go_simp⟩
  simp only [Act.put, sgPHCmMaps]
  refine partsI_yield0 (v := undef) (by simp only [List.getElem?_toArray, List.getElem?_cons_zero, List.getElem?_cons_succ]; rfl) ?_ ?_
  · exact Or.inr ⟨by rfl, rfl⟩
  simp only [Act.put, sgPHCmMaps]
  refine partsI_yield0 (v := undef) (by simp only [List.getElem?_toArray, List.getElem?_cons_zero, List.getElem?_cons_succ]; rfl) ?_ ?_
  · exact Or.inr ⟨by rfl, rfl⟩
  simp only [Act.put, sgPHCmMaps]
  refine partsI_force ?_
  simp only [sgLHCmMaps]
  go_wp2_with fail
  refine ⟨rfl, hS3, ?_⟩
  refine partsI_last ?_
  simp only [sgLHCmMaps]
  go_wp2_with fail
  refine ⟨rfl, ?_⟩
  go_wp2_with fail
  go_ret2
  exact ⟨rfl, hS3.2.2⟩
set_option maxRecDepth 100000 in
set_option maxHeartbeats 8000000 in
theorem commitNew_other {P : Nat → Prop} {B dg Nn k lg : Nat} {D : Nat → Nat} {qd : QD} {lp o nn : Option Addr} {room h rr bb cn : Int} {r n u c mc : Nat} {F G : Nat → Bool} (s : Sl) (hs : s.2.1 < 4294967296) (x : Sup) (hx : SuW x) (hb : x.b = (n : Int)) (hN : Nn = n) (hn : n ≤ 8192) (hft : fitS x s.1 s.2.1 (n : Int) = true) (hu : x.u ≠ (u : Int)) (h2 : cntF (qinF F G n 2) n = u) (rg xg : Nat) (w : World) (hr : RoomIs w P r n F G) (hc : Blk w c 142 (caC (some ⟨dg, 0, none⟩) lp room mc o nn h rr bb cn)) (hd : DiskQ w B dg Nn D k lg qd) : Calls Tryz.prog 8 #[.pointer (some ⟨rg, 0, none⟩), .pointer (some ⟨c, 0, none⟩), .agg (slC s), .agg (suC x), .pointer (some ⟨r, 0, none⟩), .pointer (some ⟨xg, 0, none⟩)] w fun e w' => e = .returned (.tuple #[.pointer none, .int .i64 1]) ∧ Below w.heap.size w w' := by
  subst hN
  have hb2 : Below w.heap.size w ((w.alloc (.cells (slC s) 48)).alloc (.cells (suC x) 53)) := below_new2 _ _ _
  have hS0 : Blk ((w.alloc (.cells (slC s) 48)).alloc (.cells (suC x) 53)) w.heap.size 48 (slC s) ∧ Blk ((w.alloc (.cells (slC s) 48)).alloc (.cells (suC x) 53)) (w.heap.size + 1) 53 (suC x) ∧ Below w.heap.size w ((w.alloc (.cells (slC s) 48)).alloc (.cells (suC x) 53)) := ⟨(Blk.new _ _ _).alloc _, Blk.new1 _ _ _ _, hb2⟩
  have HDk : Hid (∀ W, Below w.heap.size w W → Calls Tryz.prog 32 #[.pointer (some ⟨c, 0, none⟩)] W fun e w' => e = .returned (.pointer (some ⟨dg, 0, none⟩)) ∧ W = w') := fun W hW => caDisk_at c _ lp room mc o nn h rr bb cn W (hc.below hW hc.lt)
  have HBk : Hid (∀ W, Below w.heap.size w W → Calls Tryz.prog 33 #[.pointer (some ⟨dg, 0, none⟩)] W fun e w' => e = .returned (.int .i64 (Nn : Int)) ∧ W = w') := fun W hW => blocks_q W (hd.below hW)
  have HFt : Hid (∀ W, Calls Tryz.prog 31 #[.agg (suC x), .agg (slC s), .int .i64 (Nn : Int)] W fun e w' => e = .returned (.bool true) ∧ Below W.heap.size W w') := fun W => by
    have := sfits_any x hx s.1 s.2.1 s.2.2 hs (Nn : Int) (by omega) W
    rw [hft] at this
    exact this
  have HRm : Hid (∀ W, Below w.heap.size w W → Calls Tryz.prog 34 #[.pointer (some ⟨r, 0, none⟩), .agg (suC x)] W fun e w' => e = .returned (.bool false) ∧ Below W.heap.size W w') := fun W hW => rightRoom_no x hb hu h2 W (hr.below hW)
  clear hu
  clear hs hx hb hn hft h2 hr hc hd hb2
  go_enter Tryz.func8, Tryz.ntmps8
  go_wp2_with fail
  generalize ((w.alloc (.cells (slC s) 48)).alloc (.cells (suC x) 53)) = w1 at *
  have hS : Blk w1.drew w.heap.size 48 (slC s) ∧ Blk w1.drew (w.heap.size + 1) 53 (suC x) ∧ Below w.heap.size w w1.drew := ⟨hS0.1, hS0.2.1, hS0.2.2.drew⟩
  clear hS0
  refine wp_region_partsS (fun W => Blk W w.heap.size 48 (slC s) ∧ Blk W (w.heap.size + 1) 53 (suC x) ∧ Below w.heap.size w W) [([2], 0, true), ([], 1, true), ([], 3, false), ([], 4, false), ([], 5, false), ([], 6, true), ([], 7, true), ([], 8, true), ([], 9, true), ([], 10, false)] [11, 12] [] (by kernel_rfl) (by kernel_rfl) hS ?_
  refine partsI_yield ?_
  simp only [sgLHCmMaps]
  go_wp2_with fail
  refine ⟨rfl, _, .agg (suC x), rfl, yieldsIf_row (by rfl) 53 _ (by rfl) (w.heap.size + 1) (by rfl) 53 (suC x) (fun W hW => hW.2.1) Tryz.underlying53 rfl (sizeSup.trans (by rw [suC_size])), ?_⟩
  simp only [Act.put, sgPHCmMaps]
  refine partsI_yield0 (v := .agg (slC s)) (by simp only [List.getElem?_toArray, List.getElem?_cons_zero, List.getElem?_cons_succ]; rfl) ?_ ?_
  · exact yieldsIf_row (by rfl) 48 _ (by rfl) (w.heap.size) (by rfl) 48 (slC s) (fun W hW => hW.1) Tryz.underlying48 rfl (sizeSlot.trans (by rw [slC_size]))
  simp only [Act.put, sgPHCmMaps]
  refine partsI_force ?_
  simp only [sgLHCmMaps]
  refine wpList_hideY (by rfl) fun K QQ hK => ?_
  go_wp2_with fail
  refine (HDk.out _ hS.2.2).mono ?_
  rintro e _ ⟨rfl, rfl⟩
  go_wp2_with fail
  refine ⟨rfl, hS, ?_⟩
  refine partsI_force ?_
  simp only [sgLHCmMaps]
  refine wpList_hideY (by rfl) fun K QQ hK => ?_
  go_wp2_with fail
  refine (HBk.out _ hS.2.2).mono ?_
  rintro e _ ⟨rfl, rfl⟩
  go_wp2_with fail
  refine ⟨rfl, hS, ?_⟩
  refine partsI_force ?_
  simp only [sgLHCmMaps]
  refine wpList_hideY (by rfl) fun K QQ hK => ?_
  go_wp2_with fail
  refine (HFt.out _).mono ?_
  rintro e w3 ⟨rfl, hb3⟩
  have hS3 : Blk w3 w.heap.size 48 (slC s) ∧ Blk w3 (w.heap.size + 1) 53 (suC x) ∧ Below w.heap.size w w3 := ⟨hS.1.below hb3 hS.1.lt, hS.2.1.below hb3 hS.2.1.lt, hS.2.2.trans (hb3.mono hS.2.2.size)⟩
  clear hb3
  go_wp2_with fail
  refine ⟨rfl, hS3, ?_⟩
  refine partsI_yield0 (v := .bool false) (by simp only [List.getElem?_toArray, List.getElem?_cons_zero, List.getElem?_cons_succ]; rfl) ?_ ?_
  · exact Or.inl ⟨by rfl, fun W hW => by go_simp⟩
  simp only [Act.put, sgPHCmMaps]
  refine partsI_yield0 (v := .bool false) (by simp only [List.getElem?_toArray, List.getElem?_cons_zero, List.getElem?_cons_succ]; rfl) ?_ ?_
  · exact Or.inl ⟨by rfl, fun W hW => by go_simp⟩
  simp only [Act.put, sgPHCmMaps]
  refine partsI_yield0 (v := .pointer (some ⟨r, 0, none⟩)) (by simp only [List.getElem?_toArray, List.getElem?_cons_zero, List.getElem?_cons_succ]; rfl) ?_ ?_
  · exact Or.inl ⟨by rfl, fun W hW => by go_simp⟩
  simp only [Act.put, sgPHCmMaps]
  refine partsI_yield0 (v := .agg (suC x)) (by simp only [List.getElem?_toArray, List.getElem?_cons_zero, List.getElem?_cons_succ]; rfl) ?_ ?_
  · exact yieldsIf_row (by rfl) 53 _ (by rfl) (w.heap.size + 1) (by rfl) 53 (suC x) (fun W hW => hW.2.1) Tryz.underlying53 rfl (sizeSup.trans (by rw [suC_size]))
  simp only [Act.put, sgPHCmMaps]
  refine partsI_force ?_
  simp only [sgLHCmMaps]
  refine wpList_hideY (by rfl) fun K QQ hK => ?_
  go_wp2_with fail
  refine (HRm.out _ hS3.2.2).mono ?_
  rintro e w4 ⟨rfl, hb4⟩
  have hS4 : Blk w4 w.heap.size 48 (slC s) ∧ Blk w4 (w.heap.size + 1) 53 (suC x) ∧ Below w.heap.size w w4 := ⟨hS3.1.below hb4 hS3.1.lt, hS3.2.1.below hb4 hS3.2.1.lt, hS3.2.2.trans (hb4.mono hS3.2.2.size)⟩
  clear hb4
  go_wp2_with fail
  refine ⟨rfl, hS4, ?_⟩
  refine partsI_last ?_
  simp only [sgLHCmMaps]
  go_wp2_with fail
  refine ⟨rfl, ?_⟩
  go_wp2_with fail
  go_ret2
  exact ⟨rfl, hS4.2.2⟩
end Go.Proofs.YtppagdmlfgialaaGreat
