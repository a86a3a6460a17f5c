/- A cut of the power set: the program's contract of Cut. -/
import Derived.Test.YtppagdmlfgialaaGreatDoorHSuNum
import Derived.Test.YtppagdmlfgialaaGreatDoorHInsOpen
import Derived.Test.YtppagdmlfgialaaGreatDoorHDkKeep
import Derived.Handy
import Derived.Test.YtppagdmlfgialaaGreatDoorHDkWrite
import Derived.Test.YtppagdmlfgialaaGreatDoorHSegsP

namespace Go.Proofs.YtppagdmlfgialaaGreatDoor
open Go Go.RowKit
set_option linter.unusedSimpArgs false
set_option linter.unusedVariables false
theorem cm_build0 {P : Program} {ops : Array Oper} {rest : List Oper} {o : Oper} {a : Act} {w : World} {Q : Exit → Act → World → Prop} (hw : Region.wanted o (yielded ops a.tmps) = true) (t : TypeId) (ho : o.op = .build t #[])
    (cells : Array Value) (hf : P.built t [] = some cells) (h : wpList P ops Q rest (a.put o.dst (.agg cells)) w) : wpList P ops Q (o :: rest) a w :=
  wpList_step fun K hK => by
    rw [if_pos hw]
    have e : (Array.map (fun (x : Nat × Operand) => match x with | (i, x) => (i, a.eval x)) #[]).toList = [] := by simp
    refine wp_build t _ ho (by rw [e, hf]; rfl) ?_
    rw [e, hf]
    exact hK _ _ h
set_option maxRecDepth 100000 in
set_option maxHeartbeats 4000000 in
theorem stStamp_nil (w : World) : Calls Tryz.prog 9 #[.pointer none] w fun e w' => e = .returned (.int .u64 0) ∧ w = w' := by
  go_enter Tryz.func9, Tryz.ntmps9
  go_wp2_with fail
  go_ret
  exact ⟨rfl, rfl⟩
set_option maxRecDepth 100000 in
set_option maxHeartbeats 4000000 in
theorem stInodes_nil (w : World) : Calls Tryz.prog 10 #[.pointer none] w fun e w' => e = .returned (.pointer none) ∧ w = w' := by
  go_enter Tryz.func10, Tryz.ntmps10
  go_wp2_with fail
  go_ret
  exact ⟨rfl, rfl⟩
set_option maxRecDepth 100000 in
set_option maxHeartbeats 4000000 in
theorem stRoom_nil (w : World) : Calls Tryz.prog 11 #[.pointer none] w fun e w' => e = .returned (.pointer none) ∧ w = w' := by
  go_enter Tryz.func11, Tryz.ntmps11
  go_wp2_with fail
  go_ret
  exact ⟨rfl, rfl⟩
set_option maxRecDepth 100000 in
set_option maxHeartbeats 4000000 in
theorem stCache_nil (w : World) : Calls Tryz.prog 12 #[.pointer none] w fun e w' => e = .returned (.pointer none) ∧ w = w' := by
  go_enter Tryz.func12, Tryz.ntmps12
  go_wp2_with fail
  go_ret
  exact ⟨rfl, rfl⟩
set_option maxRecDepth 100000 in
set_option maxHeartbeats 4000000 in
theorem stDead_nil (w : World) : Calls Tryz.prog 13 #[.pointer none] w fun e w' => e = .returned (.bool true) ∧ w = w' := by
  go_enter Tryz.func13, Tryz.ntmps13
  go_wp2_with fail
  go_ret
  exact ⟨rfl, rfl⟩
set_option maxRecDepth 100000 in
set_option maxHeartbeats 4000000 in
theorem stKeep_nil (x : Option Addr) (w : World) : Calls Tryz.prog 16 #[.pointer none, .pointer x] w fun e w' => e = .returned (.int .i64 4) ∧ w = w' := by
  go_enter Tryz.func16, Tryz.ntmps16
  go_wp2_with fail
  go_ret
  exact ⟨rfl, rfl⟩
set_option maxRecDepth 100000 in
set_option maxHeartbeats 4000000 in
theorem stNew_nil (w : World) : Calls Tryz.prog 4 #[.pointer none] w fun e w' => e = .returned (.tuple #[.int .i64 0, .int .i64 4]) ∧ w = w' := by
  go_enter Tryz.func4, Tryz.ntmps4
  go_wp2_with fail
  refine (stDead_nil w).mono ?_
  rintro e _ ⟨rfl, rfl⟩
  go_wp2_with fail
  go_ret2
  exact ⟨rfl, rfl⟩
set_option maxRecDepth 100000 in
set_option maxHeartbeats 4000000 in
theorem stFitting_nil (w : World) : Calls Tryz.prog 34 #[.pointer none] w fun e w' => e = .returned (.tuple #[.int .i64 0, .int .i64 4]) ∧ w = w' := by
  go_enter Tryz.func34, Tryz.ntmps34
  go_wp2_with fail
  refine (stNew_nil w).mono ?_
  rintro e _ ⟨rfl, rfl⟩
  go_wp2_with fail
  go_ret2
  exact ⟨rfl, rfl⟩
set_option maxRecDepth 100000 in
set_option maxHeartbeats 4000000 in
theorem stFits_nil (w : World) : Calls Tryz.prog 14 #[.pointer none] w fun e w' => e = .returned (.int .i64 4) ∧ w = w' := by
  go_enter Tryz.func14, Tryz.ntmps14
  go_wp2_with fail
  refine (stFitting_nil w).mono ?_
  rintro e _ ⟨rfl, rfl⟩
  go_wp2_with fail
  go_ret
  exact ⟨rfl, rfl⟩
set_option maxRecDepth 100000 in
set_option maxHeartbeats 4000000 in
theorem stCommit_nil (w : World) : Calls Tryz.prog 15 #[.pointer none] w fun e w' => e = .returned (.int .i64 4) ∧ w = w' := by
  go_enter Tryz.func15, Tryz.ntmps15
  go_wp2_with fail
  refine (stFitting_nil w).mono ?_
  rintro e _ ⟨rfl, rfl⟩
  go_wp2_with fail
  go_ret
  exact ⟨rfl, rfl⟩
theorem built_slot0 : Tryz.prog.built 43 [] = some (slC sl0) := by kernel_rfl
set_option maxRecDepth 100000 in
set_option maxHeartbeats 4000000 in
theorem stSlot_nil (w : World) : Calls Tryz.prog 7 #[.pointer none] w fun e w' => e = .returned (.agg (slC sl0)) ∧ Below w.heap.size w w' := by
  have hz := zero_slot
  have r0 : Blk (w.alloc (.cells (slC sl0) 43)) w.heap.size 43 (slC sl0) := Blk.new _ _ _
  have hb : Below w.heap.size w (w.alloc (.cells (slC sl0) 43)) := below_new1 _ _
  go_enter Tryz.func7, Tryz.ntmps7
  go_wp2_with (first
    | (refine cm_build0 (by rfl) 43 (by rfl) (slC sl0) (by exact built_slot0) ?_; simp only [Act.put, List.setIfInBounds_toArray, List.set_cons_zero, List.set_cons_succ])
    | (refine wpList_store_row (by rfl) 43 _ _ (by rfl) (w.heap.size) (slC sl0) (by rfl) (by rfl) 43 (_) (by exact r0) (sizeSlot.trans (by rw [slC_size])) (by simp only [slC_size]) (slC_all _) ?_; simp only [Act.put, List.setIfInBounds_toArray, List.set_cons_zero, List.set_cons_succ])
    | fail)
  try simp only [Exit.inBlock, Exit.then]
  refine bodyPost_ret (results_cell1 Tryz.results7 _ _ w.heap.size 43 (slC sl0) (0, 0) _ rfl (r0.set _) Tryz.underlying43 rfl (sizeSlot.trans (by rw [slC_size]))) rfl ?_
  exact ⟨rfl, below_setRow hb (Nat.le_refl _) _⟩
theorem built_super0 : Tryz.prog.built 48 [] = some (suC su0) := by kernel_rfl
set_option maxRecDepth 100000 in
set_option maxHeartbeats 4000000 in
theorem stRoot_nil (w : World) : Calls Tryz.prog 8 #[.pointer none] w fun e w' => e = .returned (.agg (suC su0)) ∧ Below w.heap.size w w' := by
  have hz := zero_sup
  have r0 : Blk (w.alloc (.cells (suC su0) 48)) w.heap.size 48 (suC su0) := Blk.new _ _ _
  have hb : Below w.heap.size w (w.alloc (.cells (suC su0) 48)) := below_new1 _ _
  go_enter Tryz.func8, Tryz.ntmps8
  go_wp2_with (first
    | (refine cm_build0 (by rfl) 48 (by rfl) (suC su0) (by exact built_super0) ?_; simp only [Act.put, List.setIfInBounds_toArray, List.set_cons_zero, List.set_cons_succ])
    | (refine wpList_store_row (by rfl) 48 _ _ (by rfl) (w.heap.size) (suC su0) (by rfl) (by rfl) 48 (_) (by exact r0) (sizeSup.trans (by rw [suC_size])) (by simp only [suC_size]) (suC_all _) ?_; simp only [Act.put, List.setIfInBounds_toArray, List.set_cons_zero, List.set_cons_succ])
    | fail)
  try simp only [Exit.inBlock, Exit.then]
  refine bodyPost_ret (results_cell1 Tryz.results8 _ _ w.heap.size 48 (suC su0) (0, 0) _ rfl (r0.set _) Tryz.underlying48 rfl (sizeSup.trans (by rw [suC_size]))) rfl ?_
  exact ⟨rfl, below_setRow hb (Nat.le_refl _) _⟩
section
variable {rp cp mp xp q : Option Addr} {s : Sl} {x : Sup} {n c : Nat} {w : World} {st : Nat}
theorem st_slot (h : Blk w st 62 (stC rp cp s x mp xp q n c false)) : w.rangeAt st 2 ((List.range 34).map (slF s)) := by
  have := Blk.range (n := 112) (f := stF rp cp s x mp xp q n c false) h 2 34 (by decide)
  rw [show ((List.range 34).map fun j => stF rp cp s x mp xp q n c false (2 + j)) = (List.range 34).map (slF s) from List.map_congr_left fun j hj => ?_] at this
  · exact this
  · have hj := List.mem_range.1 hj
    unfold stF
    rw [if_neg (by omega), if_neg (by omega), if_pos (by omega), show 2 + j - 2 = j by omega]
set_option maxRecDepth 100000 in
set_option maxHeartbeats 4000000 in
theorem stSlot_at (w : World) (h : Blk w st 62 (stC rp cp s x mp xp q n c false)) : Calls Tryz.prog 7 #[.pointer (some ⟨st, 0, none⟩)] w fun e w' => e = .returned (.agg (slC s)) ∧ Below w.heap.size w w' := by
  have hz := zero_slot
  have r0 : Blk (w.alloc (.cells (slC sl0) 43)) w.heap.size 43 (slC sl0) := Blk.new _ _ _
  have hb : Below w.heap.size w (w.alloc (.cells (slC sl0) 43)) := below_new1 _ _
  have HR : Hid ((w.alloc (.cells (slC sl0) 43)).rangeAt st 2 ((List.range 34).map (slF s))) := st_slot (h.alloc _)
  go_enter Tryz.func7, Tryz.ntmps7
  go_wp2_with (first
    | (refine wpList_load_blk (by rfl) 43 _ (by rfl) (st) (2) 34 (slF s) (by rfl) _ (by exact HR.out) Tryz.underlying43 rfl sizeSlot ?_; simp only [Act.put, List.setIfInBounds_toArray, List.set_cons_zero, List.set_cons_succ])
    | (refine wpList_store_row (by rfl) 43 _ _ (by rfl) (w.heap.size) (slC s) (by rfl) (by rfl) 43 (_) (by exact r0) (sizeSlot.trans (by rw [slC_size])) (by simp only [slC_size]) (slC_all _) ?_; simp only [Act.put, List.setIfInBounds_toArray, List.set_cons_zero, List.set_cons_succ])
    | fail)
  try simp only [Exit.inBlock, Exit.then]
  refine bodyPost_ret (results_cell1 Tryz.results7 _ _ w.heap.size 43 (slC s) (0, 0) _ rfl (r0.set _) Tryz.underlying43 rfl (sizeSlot.trans (by rw [slC_size]))) rfl ?_
  exact ⟨rfl, below_setRow hb (Nat.le_refl _) _⟩
set_option maxRecDepth 100000 in
set_option maxHeartbeats 4000000 in
theorem stStamp_at (hs : s.1 = 1) (w : World) (h : Blk w st 62 (stC rp cp s x mp xp q n c false)) : Calls Tryz.prog 9 #[.pointer (some ⟨st, 0, none⟩)] w fun e w' => e = .returned (.int .u64 2) ∧ w = w' := by
  have c2 : w.cell? ⟨st, 2, none⟩ = some (.int .u64 1) := by
    rw [show w.cell? ⟨st, 2, none⟩ = some (stF rp cp s x mp xp q n c false 2) from (h.cell 2).trans (va_at _ (by decide))]
    show some (Value.int .u64 ((s.1 : Nat) : Int)) = _
    rw [hs]
    rfl
  clear h
  go_enter Tryz.func9, Tryz.ntmps9
  go_wp2_with fail
  go_ret
  exact ⟨rfl, rfl⟩
set_option maxRecDepth 100000 in
set_option maxHeartbeats 4000000 in
theorem stDead_at (w : World) (h : Blk w st 62 (stC rp cp s x mp xp q n c false)) : Calls Tryz.prog 13 #[.pointer (some ⟨st, 0, none⟩)] w fun e w' => e = .returned (.bool false) ∧ w = w' := by
  have c2 : w.cell? ⟨st, 111, none⟩ = some (.bool false) := (h.cell 111).trans (va_at (stF rp cp s x mp xp q n c false) (by decide))
  clear h
  go_enter Tryz.func13, Tryz.ntmps13
  go_wp2_with fail
  go_ret
  exact ⟨rfl, rfl⟩
set_option maxRecDepth 100000 in
set_option maxHeartbeats 4000000 in
theorem stInodes_at (w : World) (h : Blk w st 62 (stC rp cp s x mp xp q n c false)) : Calls Tryz.prog 10 #[.pointer (some ⟨st, 0, none⟩)] w fun e w' => e = .returned (.pointer xp) ∧ w = w' := by
  have c2 : w.cell? ⟨st, 109, none⟩ = some (.pointer xp) := (h.cell 109).trans (va_at (stF rp cp s x mp xp q n c false) (by decide))
  clear h
  go_enter Tryz.func10, Tryz.ntmps10
  go_wp2_with fail
  go_ret
  exact ⟨rfl, rfl⟩
end
end Go.Proofs.YtppagdmlfgialaaGreatDoor

namespace Go.Proofs.YtppagdmlfgialaaGreatDoor
open Go Go.RowKit
set_option linter.unusedSimpArgs false
set_option linter.unusedVariables false

def cutCells (L : List (Int × Bool)) : List Value := L.flatMap fun c => [.int .i64 c.1, .bool c.2]
theorem cutCells_length (L : List (Int × Bool)) : (cutCells L).length = L.length * 2 := by
  unfold cutCells
  induction L with
  | nil => rfl
  | cons c L ih =>
    simp [List.flatMap_cons] at ih ⊢
    omega
theorem cutCells_at : ∀ (L : List (Int × Bool)) (i : Nat) (c : Int × Bool), L[i]? = some c → (cutCells L)[i * 2]? = some (.int .i64 c.1) ∧ (cutCells L)[i * 2 + 1]? = some (.bool c.2)
  | [], i, c, h => by simp at h
  | x :: L, 0, c, h => by
    simp at h
    subst h
    exact ⟨rfl, rfl⟩
  | x :: L, i + 1, c, h => by
    have ih := cutCells_at L i c (by simpa using h)
    have e : cutCells (x :: L) = .int .i64 x.1 :: .bool x.2 :: cutCells L := rfl
    rw [e, show (i + 1) * 2 = i * 2 + 1 + 1 by omega]
    exact ih
/-- the slice v holds these cuts -/
def CutsAt (w : World) (B : Nat) (v : Value) (L : List (Int × Bool)) : Prop := w.ownsRow B 287 2 v L.length (cutCells L)
theorem eq_cut (d : Nat) (a b : Int × Bool) (w : World) : (Op.equalIn (d + 1 + 1) 287 (.agg #[.int .i64 a.1, .bool a.2]) (.agg #[.int .i64 b.1, .bool b.2])).run Tryz.prog w = .ok (decide (a = b)) w := by
  have h1 : ∀ x y : Int, (Op.equalIn (d + 1) 3 (.int .i64 x) (.int .i64 y)).run Tryz.prog w = .ok (x == y) w := fun x y => by simp [Op.equalIn, run_underlying Tryz.underlying3]
  have h2 : ∀ x y : Bool, (Op.equalIn (d + 1) 4 (.bool x) (.bool y)).run Tryz.prog w = .ok (x == y) w := fun x y => by simp [Op.equalIn, run_underlying Tryz.underlying4]
  have p1 : ∀ (x : Int) (y : Bool), (part 3 #[.int .i64 x, .bool y] 0).run Tryz.prog w = .ok (.int .i64 x) w := fun x y => by simp [part, isAgg, run_underlying Tryz.underlying3]
  have p2 : ∀ (x : Int) (y : Bool), (part 4 #[.int .i64 x, .bool y] 1).run Tryz.prog w = .ok (.bool y) w := fun x y => by simp [part, isAgg, run_underlying Tryz.underlying4]
  rw [Op.equalIn]
  simp only [Sem.run_bind, run_underlying Tryz.underlying287, Result.andThen_ok]
  simp [Op.eqFields, p1, p2, h1, h2]
  obtain ⟨a1, a2⟩ := a
  obtain ⟨b1, b2⟩ := b
  by_cases ha : a1 = b1
  · subst ha
    by_cases hb : a2 = b2
    · subst hb
      simp
    · simp [hb]
  · simp [ha]
set_option maxRecDepth 100000 in
set_option maxHeartbeats 4000000 in
theorem index_cuts (B : Nat) (a : Option Addr) (cap : Nat) (L : List (Int × Bool)) (hL : L.length ≤ 64) (e0 : Int) (f0 : Bool) (w : World) (h : CutsAt w B (.slice a L.length cap) L) :
    Calls Tryz.prog 217 #[.slice a L.length cap, .agg #[.int .i64 e0, .bool f0]] w fun e w' => ∃ r : Int, e = .returned (.int .i64 r) ∧ (-1 ≤ r ∧ r ≤ 64) ∧ (0 ≤ r ↔ (e0, f0) ∈ L) ∧ Below w.heap.size w w' := by
  have hb : Below w.heap.size w (w.alloc (.cells #[.int .i64 e0, .bool f0] 287)) := below_new1 _ _
  have hbx : Blk (w.alloc (.cells #[.int .i64 e0, .bool f0] 287)) w.heap.size 287 #[.int .i64 e0, .bool f0] := Blk.new _ _ _
  have HC : Hid (CutsAt w B (.slice a L.length cap) L) := h
  clear h
  go_enter Tryz.func217, Tryz.ntmps217
  go_wp2_with fail
  generalize w.alloc (.cells #[.int .i64 e0, .bool f0] 287) = w1 at *
  go_loopw [8] (fun t wr => ∃ k n : Nat, k ≤ L.length ∧ t = .int .i64 (k : Int) ∧ wr = w1.drewN n ∧ ∀ j, j < k → L[j]? ≠ some (e0, f0)) (fun t _ => L.length - (intOf t).toNat)
  case atStart => exact ⟨0, 0, Nat.zero_le _, rfl, rfl, fun j hj => by omega⟩
  case round =>
    obtain ⟨k, m, hk, rfl, rfl, hno⟩ := hrel
    have HN : Hid (∀ j, j < k → L[j]? ≠ some (e0, f0)) := hno
    clear hno
    by_cases hlt : k < L.length
    · obtain ⟨gc, cc, hv, hgc, hgl⟩ := kown_form HC.out (by omega)
      injection hv with hv1 _ hv2
      subst hv1 hv2
      obtain ⟨c, hc⟩ : ∃ c, L[k]? = some c := ⟨_, List.getElem?_eq_getElem hlt⟩
      obtain ⟨q0, q1⟩ := cutCells_at L k c hc
      have hl2 := cutCells_length L
      have hd : ∀ n, CutsAt (w1.drewN n) B (.slice (some ⟨gc, 0, none⟩) L.length cap) L := fun n => kown_below (kown_below HC.out hb) (dkbelow_drewN (Below.refl _ _) n)
      have x0 : ∀ n, (w1.drewN n).cell? ⟨gc, k * 2, none⟩ = some (.int .i64 c.1) := fun n => by
        rw [(hd n).cellAt (g := gc) (k * 2) (by omega)]
        exact q0
      have x1 : ∀ n, (w1.drewN n).cell? ⟨gc, k * 2 + 1, none⟩ = some (.bool c.2) := fun n => by
        rw [(hd n).cellAt (g := gc) (k * 2 + 1) (by omega)]
        exact q1
      have y0 : ∀ n, (w1.drewN n).cell? ⟨w.heap.size, 0, none⟩ = some (.int .i64 e0) := fun n => by
        rw [(hbx.below (dkbelow_drewN (Below.refl w1.heap.size w1) n) hbx.lt).cell]
        rfl
      have y1 : ∀ n, (w1.drewN n).cell? ⟨w.heap.size, 1, none⟩ = some (.bool f0) := fun n => by
        rw [(hbx.below (dkbelow_drewN (Below.refl w1.heap.size w1) n) hbx.lt).cell]
        rfl
      have k0 : (0 : Int) ≤ (k : Int) := by omega
      have k1 : (k : Int) < (L.length : Int) := by omega
      have heq := fun W => eq_cut 9998 (e0, f0) c W
      by_cases he : (e0, f0) = c
      · rw [decide_eq_true he] at heq
        have HE : Hid (L[k]? = some (e0, f0)) := by rw [he]; exact hc
        clear q0 q1 hd hc he
        go_wp2_with fail
        go_quiet (fail)
        go_wp2_with fail
        go_ret
        exact ⟨_, rfl, ⟨by omega, by omega⟩, ⟨fun _ => List.mem_of_getElem? HE.out, fun _ => by omega⟩, hb.trans (dkbelow_drewN (dkbelow_drewN ((Below.refl _ _).mono hb.size) _) _)⟩
      · rw [decide_eq_false he] at heq
        have HE : Hid (L[k]? ≠ some (e0, f0)) := fun e => he (by rw [hc] at e; exact (Option.some.inj e).symm)
        clear q0 q1 hd hc he
        go_wp2_with fail
        go_quiet (fail)
        go_wp2_with fail
        refine ⟨⟨k + 1, _, by omega, by simp, rfl, fun j hj => ?_⟩, ?_⟩
        · by_cases hjk : j = k
          · subst hjk
            exact HE.out
          · exact HN.out j (by omega)
        · simp [intOf]
          omega
    · obtain rfl : k = L.length := by omega
      go_wp2_with fail
      go_ret
      refine ⟨_, rfl, ⟨by omega, by omega⟩, ⟨fun h => by omega, fun h => ?_⟩, hb.trans (dkbelow_drewN ((Below.refl _ _).mono hb.size) _)⟩
      obtain ⟨j, hj⟩ := List.getElem?_of_mem h
      exact absurd hj (HN.out j (List.getElem?_eq_some_iff.1 hj).1)
set_option maxHeartbeats 2000000 in
theorem contains_cuts (B : Nat) (a : Option Addr) (cap : Nat) (L : List (Int × Bool)) (hL : L.length ≤ 64) (e0 : Int) (f0 : Bool) (w : World) (h : CutsAt w B (.slice a L.length cap) L) :
    Calls Tryz.prog 156 #[.slice a L.length cap, .agg #[.int .i64 e0, .bool f0]] w fun e w' => e = .returned (.bool (decide ((e0, f0) ∈ L))) ∧ Below w.heap.size w w' := by
  have hb : Below w.heap.size w (w.alloc (.cells #[.int .i64 e0, .bool f0] 287)) := below_new1 _ _
  have HC : Hid (CutsAt (w.alloc (.cells #[.int .i64 e0, .bool f0] 287)) B (.slice a L.length cap) L) := kown_below h hb
  clear h
  go_enter Tryz.func156, Tryz.ntmps156
  go_wp2_with fail
  refine (index_cuts B a cap L hL e0 f0 _ HC.out).mono ?_
  rintro e w1 ⟨r, rfl, hr, hi, hb1⟩
  by_cases hm : (e0, f0) ∈ L
  · have h0 : 0 ≤ r := hi.2 hm
    have HD : Hid (decide ((e0, f0) ∈ L) = true) := decide_eq_true hm
    clear hi hm
    go_wp2_with fail
    go_ret
    exact ⟨by rw [HD.out]; rfl, hb.trans (hb1.mono hb.size)⟩
  · have h0 : ¬ 0 ≤ r := fun e => hm (hi.1 e)
    have HD : Hid (decide ((e0, f0) ∈ L) = false) := decide_eq_false hm
    clear hi hm
    go_wp2_with fail
    go_ret
    exact ⟨by rw [HD.out]; show Ending.returned (Value.bool (decide (0 ≤ r))) = _; rw [decide_eq_false (by omega)], hb.trans (hb1.mono hb.size)⟩
section
variable {w w' : World} {B g N k lg : Nat} {F : Nat → Nat} {q : QD}
/-- what is in block g turns: counts, power, the list of cuts -/
theorem DiskQ.put3 (h : DiskQ w B g N F k lg q) {k' : Nat} (hk : k ≤ k') (ev : Int) (dd : Bool) (cu : Value) (hB : Blk w' g 140 (dcells { q with ev := ev, dd := dd, cu := cu } N k')) (hs : ∀ b, foot g N q b → b ≠ g → w'.heap[b]? = w.heap[b]?) : DiskQ w' B g N F k' lg { q with ev := ev, dd := dd, cu := cu } := by
  have hm := h.many
  obtain ⟨es, cl, hg, he⟩ := h.map
  refine ⟨h.gB, hB, h.nB, (hs _ (.inr (.inl rfl)) (blk_ne h.now h.cells (by decide))).trans h.now, h.rB, ⟨es, cl, (hs _ (.inr (.inr (.inl rfl))) (map_blk hg h.cells)).trans hg, he⟩, fun p hp => by have := h.keys p hp; omega, ⟨own_block h.steps.row fun b hb => hs b (.inr (.inr (.inr (.inl hb)))) fun e => own_ne h.steps.row h.cells (by decide) (e ▸ hb), fun j hj => own_block (h.steps.each j hj) fun b hb => hs b (.inr (.inr (.inr (.inr (.inr (.inr ⟨j, (by have : j < q.G.length := hj; omega), hb⟩)))))) fun e => own_ne (h.steps.each j hj) h.cells (by decide) (e ▸ hb), h.steps.apart⟩, h.many, fun j => Nat.le_trans (h.short j) (Nat.succ_le_succ hk), own_block h.log fun b hb => hs b (.inr (.inr (.inr (.inr (.inl hb))))) fun e => own_ne h.log h.cells (by decide) (e ▸ hb), own_block h.wear fun b hb => hs b (.inr (.inr (.inr (.inr (.inr (.inl hb)))))) fun e => own_ne h.wear h.cells (by decide) (e ▸ hb), h.ints, h.apart⟩
/-- the cuts lie in none of the disk's other blocks -/
theorem DiskQ.cutsApart (h : DiskQ w B g N F k lg q) {v : Value} {L : List (Int × Bool)} (hc : CutsAt w B v L) : ∀ b, v.ownBlock = some b → ¬ foot g N q b := by
  intro b hb hf
  have hm := h.many
  obtain ⟨es, cl, hg, he⟩ := h.map
  rcases hf with rfl | rfl | rfl | z | z | z | ⟨j, hj, z⟩
  · exact own_ne hc h.cells (by decide) hb
  · exact own_ne hc h.now (by decide) hb
  · exact own_map hc hg hb
  · exact own_own hc h.steps.row (by decide) hb z
  · exact own_own hc h.log (by decide) hb z
  · exact own_own hc h.wear (by decide) hb z
  · exact own_own hc (h.steps.each j (by omega)) (by decide) hb z
theorem DiskQ.cutsKept (h : DiskQ w B g N F k lg q) {v : Value} {L : List (Int × Bool)} {q' : QD} (hc : CutsAt w B v L) (hm : Moved g N q q' w w') : CutsAt w' B v L :=
  own_block hc fun b hb => hm.1.block b (hc.lt b hb).2 (h.cutsApart hc b hb)
set_option maxHeartbeats 1000000 in
theorem dead_c (w : World) (h : DiskQ w B g N F k lg q) : Calls Tryz.prog 105 #[.pointer (some ⟨g, 0, none⟩)] w fun e w' => e = .returned (.bool q.dd) ∧ w = w' := by
  have c5 : w.cell? ⟨g, 5, none⟩ = some (.bool q.dd) := by rw [h.c]; rfl
  clear h
  go_enter Tryz.func105, Tryz.ntmps105
  go_wp2_with fail
  go_ret
  exact ⟨rfl, rfl⟩
/-- whether a cut ahead of, behind the next event is there -/
def ahB (q : QD) (L : List (Int × Bool)) : Bool := decide ((q.ev, false) ∈ L)
def bhB (q : QD) (L : List (Int × Bool)) : Bool := decide ((q.ev, true) ∈ L)
set_option maxRecDepth 100000 in
set_option maxHeartbeats 8000000 in
theorem next_c (L : List (Int × Bool)) (hL : L.length ≤ 64) (hev : 0 ≤ q.ev ∧ q.ev < 4611686018427387904) (hd : q.dd = false) (w : World) (h : DiskQ w B g N F k lg q) (hc : CutsAt w B q.cu L) :
    Calls Tryz.prog 106 #[.pointer (some ⟨g, 0, none⟩)] w fun e w' => e = .returned (.tuple #[.bool (!ahB q L), .int .i64 (if (ahB q L || bhB q L) = true then 4 else 0)]) ∧ DiskQ w' B g N F k lg { q with ev := q.ev + 1, dd := ahB q L || bhB q L } ∧ Moved g N q { q with ev := q.ev + 1, dd := ahB q L || bhB q L } w w' := by
  obtain ⟨ca, cc, hcu⟩ := kown_slice hc
  have c7 : w.cell? ⟨g, 7, none⟩ = some (.int .i64 q.ev) := by rw [h.c]; rfl
  have f7 : w.frozen? ⟨g, 7, none⟩ = false := h.cells.frozen 7
  obtain ⟨E, hE⟩ : ∃ E, E = q.ev := ⟨_, rfl⟩
  obtain ⟨ah, hah⟩ : ∃ ah, ah = ahB q L := ⟨_, rfl⟩
  obtain ⟨bh, hbh⟩ : ∃ bh, bh = bhB q L := ⟨_, rfl⟩
  have hA : Hid (∀ w : World, CutsAt w B (.slice ca L.length cc) L → Calls Tryz.prog 156 #[.slice ca L.length cc, .agg #[.int .i64 E, .bool false]] w fun e w' => e = .returned (.bool ah) ∧ Below w.heap.size w w') := fun w hw => by
    rw [hah, hE]
    exact contains_cuts B ca cc L hL q.ev false w hw
  have hB' : Hid (∀ w : World, CutsAt w B (.slice ca L.length cc) L → Calls Tryz.prog 156 #[.slice ca L.length cc, .agg #[.int .i64 E, .bool true]] w fun e w' => e = .returned (.bool bh) ∧ Below w.heap.size w w') := fun w hw => by
    rw [hbh, hE]
    exact contains_cuts B ca cc L hL q.ev true w hw
  rw [← hah, ← hbh]
  have hB : Blk (w.setCell ⟨g, 7, none⟩ (.int .i64 (q.ev + 1))) g 140 (dcells { q with ev := q.ev + 1 } N k) := h.cells.put 7 _
  have HQ1 : Hid (DiskQ (w.setCell ⟨g, 7, none⟩ (.int .i64 (q.ev + 1))) B g N F k lg { q with ev := q.ev + 1 }) := h.put (Nat.le_refl _) _ hB fun b hb => Deep.blk_setCell_other w ⟨g, 7, none⟩ _ b hb
  have HM1 : Hid (Moved g N q { q with ev := q.ev + 1 } w (w.setCell ⟨g, 7, none⟩ (.int .i64 (q.ev + 1)))) := ⟨⟨rfl, rfl, rfl, by rw [Deep.nblk_setCell]; exact Nat.le_refl _, fun b hb hf => Deep.blk_setCell_other w ⟨g, 7, none⟩ _ b fun e => hf (.inl e)⟩, fun b hb => .inl hb⟩
  have HCT : Hid (CutsAt (w.setCell ⟨g, 7, none⟩ (.int .i64 (q.ev + 1))) B (.slice ca L.length cc) L) := by
    rw [← hcu]
    exact h.cutsKept hc HM1.out
  have HC : Hid (∀ W, DiskQ W B g N F k lg { q with ev := q.ev + 1 } → W.cell? ⟨g, 4, none⟩ = some (.slice ca L.length cc)) := fun W hW => by
    rw [hW.c, ← hcu]
    rfl
  have d4 := HC.out _ HQ1.out
  have HD0 : Hid (q.dd = false) := hd
  clear hB h hc hah hbh hcu hd
  rw [← hE] at c7 hev HQ1 HM1 HC d4 HCT ⊢
  clear hE
  go_enter Tryz.func106, Tryz.ntmps106
  go_wp2_with fail
  generalize w.setCell ⟨g, 7, none⟩ (.int .i64 (E + 1)) = w1 at *
  refine (hA.out _ HCT.out).mono ?_
  rintro e w2 ⟨rfl, hb2⟩
  have HQ2 : Hid (DiskQ w2 B g N F k lg { q with ev := E + 1 }) := HQ1.out.below hb2
  have HM2 : Hid (Moved g N q { q with ev := E + 1 } w w2) := HM1.out.trans (.of_below hb2)
  have HCT2 : Hid (CutsAt w2 B (.slice ca L.length cc) L) := kown_below HCT.out hb2
  have d5 := HC.out _ HQ2.out
  clear hb2 HCT
  go_wp2_with fail
  refine (hB'.out _ HCT2.out).mono ?_
  rintro e w3 ⟨rfl, hb3⟩
  have HQ3 : Hid (DiskQ w3 B g N F k lg { q with ev := E + 1 }) := HQ2.out.below hb3
  have HM3 : Hid (Moved g N q { q with ev := E + 1 } w w3) := HM2.out.trans (.of_below hb3)
  clear hb3 HQ2 HM2 HQ1 HM1 d4 d5
  have c5 : w3.cell? ⟨g, 5, none⟩ = some (.bool false) := by
    rw [HQ3.out.c]
    show some (Value.bool q.dd) = _
    rw [HD0.out]
  have f5 : w3.frozen? ⟨g, 5, none⟩ = false := HQ3.out.cells.frozen 5
  have hBd : Blk (w3.setCell ⟨g, 5, none⟩ (.bool true)) g 140 (dcells { q with ev := E + 1, dd := true } N k) := HQ3.out.cells.put 5 _
  have HQ4 : Hid (DiskQ (w3.setCell ⟨g, 5, none⟩ (.bool true)) B g N F k lg { q with ev := E + 1, dd := true }) := HQ3.out.put3 (Nat.le_refl _) (E + 1) true q.cu hBd fun b _ hb => Deep.blk_setCell_other w3 ⟨g, 5, none⟩ _ b hb
  have HM4 : Hid (Moved g N q { q with ev := E + 1, dd := true } w (w3.setCell ⟨g, 5, none⟩ (.bool true))) := HM3.out.trans ⟨⟨rfl, rfl, rfl, by rw [Deep.nblk_setCell]; exact Nat.le_refl _, fun b hb hf => Deep.blk_setCell_other w3 ⟨g, 5, none⟩ _ b fun e => hf (.inl e)⟩, fun b hb => .inl hb⟩
  clear hBd
  have HE : Hid (({ q with ev := E + 1, dd := false } : QD) = { q with ev := E + 1 }) := by
    show _ = _
    rw [← HD0.out]
  cases ah
  · cases bh
    · go_wp2_with fail
      try simp only [Exit.inBlock, Exit.then]
      refine bodyPost_ret (results_tmp2 Tryz.results106 _ _ _) rfl ?_
      refine ⟨rfl, ?_, ?_⟩
      · show DiskQ w3 B g N F k lg { q with ev := E + 1, dd := false }
        rw [HE.out]
        exact HQ3.out
      · show Moved g N q { q with ev := E + 1, dd := false } w w3
        rw [HE.out]
        exact HM3.out
    · go_wp2_with fail
      try simp only [Exit.inBlock, Exit.then]
      refine bodyPost_ret (results_tmp2 Tryz.results106 _ _ _) rfl ?_
      exact ⟨rfl, HQ4.out, HM4.out⟩
  · go_wp2_with fail
    try simp only [Exit.inBlock, Exit.then]
    refine bodyPost_ret (results_tmp2 Tryz.results106 _ _ _) rfl ?_
    exact ⟨rfl, HQ4.out, HM4.out⟩
end
end Go.Proofs.YtppagdmlfgialaaGreatDoor

namespace Go.Proofs.YtppagdmlfgialaaGreatDoor
open Go Go.RowKit
set_option linter.unusedSimpArgs false
set_option linter.unusedVariables false

theorem zeroRaw_ev (w : World) : (zeroValue 225).run Tryz.prog w = .ok (.agg (va 258 (rawF 0 0 fun _ => 0))) w := by
  obtain ⟨i0, hi, hz0, hz1, hz2⟩ := info_parts infoRaw
  simp [zeroValue, typeInfo, hi, hz0]
theorem raw_kind (kd : Int) : (va 258 (rawF 0 0 fun _ => 0)).setIfInBounds 0 (.int .i64 kd) = va 258 (rawF kd 0 fun _ => 0) := by
  rw [va_set]
  refine va_congr fun i _ => ?_
  unfold upd rawF
  by_cases hi : i = 0
  · rw [if_pos hi, if_pos hi]
  · rw [if_neg hi, if_neg hi, if_neg hi]
section
variable {B g N k lg : Nat} {F : Nat → Nat} {q : QD}
set_option maxHeartbeats 2000000 in
theorem event_not (hd : q.dd = false) (er : Int) (d1 : Bool) (w : World) (hnext : ∀ w0, DiskQ w0 B g N F k lg q → Moved g N q q w w0 → Calls Tryz.prog 106 #[.pointer (some ⟨g, 0, none⟩)] w0 fun e w' => e = .returned (.tuple #[.bool false, .int .i64 er]) ∧ DiskQ w' B g N F k lg { q with ev := q.ev + 1, dd := d1 } ∧ Moved g N q { q with ev := q.ev + 1, dd := d1 } w0 w') (h : DiskQ w B g N F k lg q) :
    Calls Tryz.prog 64 #[.pointer (some ⟨g, 0, none⟩)] w fun e w' => e = .returned (.tuple #[.bool false, .int .i64 er]) ∧ DiskQ w' B g N F k lg { q with ev := q.ev + 1, dd := d1 } ∧ Moved g N q { q with ev := q.ev + 1, dd := d1 } w w' := by
  have hNx : Hid (∀ w0, DiskQ w0 B g N F k lg q → Moved g N q q w w0 → Calls Tryz.prog 106 #[.pointer (some ⟨g, 0, none⟩)] w0 fun e w' => e = .returned (.tuple #[.bool false, .int .i64 er]) ∧ DiskQ w' B g N F k lg { q with ev := q.ev + 1, dd := d1 } ∧ Moved g N q { q with ev := q.ev + 1, dd := d1 } w0 w') := hnext
  have HQ : Hid (DiskQ w B g N F k lg q) := h
  clear h hnext
  go_enter Tryz.func64, Tryz.ntmps64
  go_wp2_with fail
  refine (dead_q hd w HQ.out).mono ?_
  rintro e _ ⟨rfl, rfl⟩
  go_wp2_with fail
  refine (hNx.out _ HQ.out (.of_below (Below.refl _ _))).mono ?_
  rintro e w2 ⟨rfl, h2, h3⟩
  go_wp2_with fail
  try simp only [Exit.inBlock, Exit.then]
  refine bodyPost_ret (results_tmp2 Tryz.results64 _ _ _) rfl ?_
  exact ⟨rfl, h2, h3⟩
set_option maxRecDepth 100000 in
set_option maxHeartbeats 8000000 in
theorem event_ge {cv : Value} {m : Nat} (hq : QuietC cv false q m) (er : Int) (d1 : Bool) (hlg : lg < 137438953472) (w : World) (hnext : ∀ w0, DiskQ w0 B g N F k lg q → Moved g N q q w w0 → Calls Tryz.prog 106 #[.pointer (some ⟨g, 0, none⟩)] w0 fun e w' => e = .returned (.tuple #[.bool true, .int .i64 er]) ∧ DiskQ w' B g N F k lg { q with ev := q.ev + 1, dd := d1 } ∧ Moved g N q { q with ev := q.ev + 1, dd := d1 } w0 w') (hB : B ≤ w.heap.size) (h : DiskQ w B g N F k lg q) :
    Calls Tryz.prog 64 #[.pointer (some ⟨g, 0, none⟩)] w fun e w' => e = .returned (.tuple #[.bool true, .int .i64 er]) ∧ ∃ q', DiskQ w' B g N F k (lg + 1) q' ∧ QuietC cv d1 q' (m + 1) ∧ Moved g N q q' w w' ∧ q'.ev = q.ev + 1 := by
  have hNx : Hid (∀ w0, DiskQ w0 B g N F k lg q → Moved g N q q w w0 → Calls Tryz.prog 106 #[.pointer (some ⟨g, 0, none⟩)] w0 fun e w' => e = .returned (.tuple #[.bool true, .int .i64 er]) ∧ DiskQ w' B g N F k lg { q with ev := q.ev + 1, dd := d1 } ∧ Moved g N q { q with ev := q.ev + 1, dd := d1 } w0 w') := hnext
  have HQ : Hid (DiskQ w B g N F k lg q) := h
  have HQt : Hid (QuietC cv false q m) := hq
  have HW : Hid (B ≤ w.heap.size) := hB
  have hzr := zeroRaw_ev
  obtain ⟨i0, hi, hz0, hz1, hz2⟩ := info_parts infoRaw
  clear h hnext hq hB
  go_enter Tryz.func64, Tryz.ntmps64
  go_wp2_with fail
  refine (dead_q HQt.out.dd w HQ.out).mono ?_
  rintro e _ ⟨rfl, rfl⟩
  go_wp2_with fail
  refine (hNx.out _ HQ.out (.of_below (Below.refl _ _))).mono ?_
  rintro e w2 ⟨rfl, h2, h3⟩
  obtain ⟨q2, hq2⟩ : ∃ q2 : QD, q2 = { q with ev := q.ev + 1, dd := d1 } := ⟨_, rfl⟩
  rw [← hq2] at h2 h3
  have HQ2 : Hid (DiskQ w2 B g N F k lg q2) := h2
  have HM2 : Hid (Moved g N q q2 w w2) := h3
  have HQt2 : Hid (QuietC cv d1 q2 (m + 1)) := by
    rw [hq2]
    obtain ⟨a1, a2, a3, a4, a5, a6⟩ := HQt.out
    exact ⟨rfl, a2, a3, by show 0 ≤ q.ev + 1; omega, by show q.ev + 1 ≤ ((m + 1 : Nat) : Int); omega, a6⟩
  have HV2 : Hid (q2.ev = q.ev + 1) := by rw [hq2]; rfl
  have d8 : w2.cell? ⟨g, 8, none⟩ = some q2.lv := by rw [HQ2.out.c]; rfl
  clear h2 h3 hq2
  have hrs : ((va 258 (rawF 0 0 fun _ => 0)).setIfInBounds 0 (.int .i64 4)).size = 258 := by rw [Array.size_setIfInBounds, va_size]
  have hr1 : ∀ u ∈ ((va 258 (rawF 0 0 fun _ => 0)).setIfInBounds 0 (.int .i64 4)).toList, u.oneCell' = true := by
    rw [raw_kind]
    exact raw_one _ _ _
  have HOWN : Hid ((w2.alloc (.cells ((va 258 (rawF 0 0 fun _ => 0)).setIfInBounds 0 (.int .i64 4)) 225)).ownsRow B 225 258 q2.lv lg q2.xs) := HQ2.out.log.alloc _
  have HC : Hid (∀ j u, ((va 258 (rawF 0 0 fun _ => 0)).setIfInBounds 0 (.int .i64 4)).toList[j]? = some u → (w2.alloc (.cells ((va 258 (rawF 0 0 fun _ => 0)).setIfInBounds 0 (.int .i64 4)) 225)).cell? ((⟨w2.heap.size, 0, none⟩ : Addr).add j) = some u) := cells_new w2 _ _
  have HBB : Hid (B ≤ (w2.alloc (.cells ((va 258 (rawF 0 0 fun _ => 0)).setIfInBounds 0 (.int .i64 4)) 225)).heap.size) := by
    have h1 := HM2.out.1.size
    have h2 := HW.out
    show B ≤ _
    rw [show (w2.alloc (.cells ((va 258 (rawF 0 0 fun _ => 0)).setIfInBounds 0 (.int .i64 4)) 225)).heap.size = w2.heap.size + 1 by simp]
    omega
  go_wp2_with (first
    | (refine wpList_build1 rfl 138 225 _ rfl ((va 258 (rawF 0 0 fun _ => 0)).setIfInBounds 0 (.int .i64 4)) rfl i0 (.agg (va 258 (rawF 0 0 fun _ => 0))) 258 Tryz.underlying138 hi hz0 hz1 hrs (by decide) (by decide) ?_; simp only [Act.put, List.setIfInBounds_toArray, List.set_cons_zero, List.set_cons_succ])
    | (at_builtin; refine wpList_append_own_at rfl _ _ 138 rfl B 225 i0 (.agg (va 258 (rawF 0 0 fun _ => 0))) 258 272 Tryz.underlying138 hi hz0 hz1 hz2 (va_size _ _) (by decide) _ _ _ rfl HOWN.out ⟨w2.heap.size, 0, none⟩ 1 1 ((va 258 (rawF 0 0 fun _ => 0)).setIfInBounds 0 (.int .i64 4)).toList rfl (by rw [Array.length_toList, hrs]) HC.out hr1 (by unfold maxLen; omega) (by omega) HBB.out ?_)
    | go_in)
  intro v' w6 hrow hgr hsb
  obtain ⟨xa, xc, hxe⟩ := kown_slice hrow
  subst hxe
  obtain ⟨hB6, hq6, hm6⟩ := HQ2.out.logged ((va 258 (rawF 0 0 fun _ => 0)).setIfInBounds 0 (.int .i64 4)) hrow hgr (by rw [show (w2.alloc (.cells ((va 258 (rawF 0 0 fun _ => 0)).setIfInBounds 0 (.int .i64 4)) 225)).heap.size = w2.heap.size + 1 by simp]; exact hsb)
  have HQ6 : Hid (DiskQ (w6.setCell ⟨g, 8, none⟩ (Value.slice xa (lg + 1) xc)) B g N F k (lg + 1) { q2 with lv := (Value.slice xa (lg + 1) xc), xs := q2.xs ++ ((va 258 (rawF 0 0 fun _ => 0)).setIfInBounds 0 (.int .i64 4)).toList }) := hq6
  have HM6 : Hid (Moved g N q { q2 with lv := (Value.slice xa (lg + 1) xc), xs := q2.xs ++ ((va 258 (rawF 0 0 fun _ => 0)).setIfInBounds 0 (.int .i64 4)).toList } w (w6.setCell ⟨g, 8, none⟩ (Value.slice xa (lg + 1) xc))) := HM2.out.trans hm6
  have HQt6 : Hid (QuietC cv d1 { q2 with lv := (Value.slice xa (lg + 1) xc), xs := q2.xs ++ ((va 258 (rawF 0 0 fun _ => 0)).setIfInBounds 0 (.int .i64 4)).toList } (m + 1)) := by
    obtain ⟨a1, a2, a3, a4, a5, a6⟩ := HQt2.out
    exact ⟨a1, a2, a3, a4, a5, fun u hu => by
      rcases List.mem_append.1 hu with h1 | h1
      · exact a6 u h1
      · exact hr1 u h1⟩
  have d8c : w6.cell? ⟨g, 8, none⟩ = some q2.lv := by rw [hB6.cell]; rfl
  have f8c : w6.frozen? ⟨g, 8, none⟩ = false := hB6.frozen 8
  clear hq6 hm6 HOWN HC HBB hrow hgr hsb hr1 hrs
  go_wp2_with fail
  try simp only [Exit.inBlock, Exit.then]
  refine bodyPost_ret (results_tmp2 Tryz.results64 _ _ _) rfl ?_
  exact ⟨rfl, _, HQ6.out, HQt6.out, HM6.out, HV2.out⟩
/-- the next event, by the cuts -/
theorem event_c (C : List (Int × Bool)) (hC : C.length ≤ 64) {m : Nat} (hq : QuietC q.cu false q m) (hm : m < 4611686018427387904) (hlg : lg < 137438953472) (w : World) (hB : B ≤ w.heap.size) (h : DiskQ w B g N F k lg q) (hc : CutsAt w B q.cu C) :
    Calls Tryz.prog 64 #[.pointer (some ⟨g, 0, none⟩)] w fun e w' => e = .returned (.tuple #[.bool (!ahB q C), .int .i64 (if (ahB q C || bhB q C) = true then 4 else 0)]) ∧ ∃ q' lg', DiskQ w' B g N F k lg' q' ∧ QuietC q.cu (ahB q C || bhB q C) q' (m + 1) ∧ Moved g N q q' w w' ∧ q'.ev = q.ev + 1 ∧ lg' ≤ lg + 1 := by
  have hnx : ∀ w0, DiskQ w0 B g N F k lg q → Moved g N q q w w0 → Calls Tryz.prog 106 #[.pointer (some ⟨g, 0, none⟩)] w0 fun e w' => e = .returned (.tuple #[.bool (!ahB q C), .int .i64 (if (ahB q C || bhB q C) = true then 4 else 0)]) ∧ DiskQ w' B g N F k lg { q with ev := q.ev + 1, dd := ahB q C || bhB q C } ∧ Moved g N q { q with ev := q.ev + 1, dd := ahB q C || bhB q C } w0 w' := fun w0 h0 hm0 => next_c C hC ⟨hq.ev0, by have := hq.ev1; omega⟩ hq.dd w0 h0 (h.cutsKept hc hm0)
  cases ha : ahB q C with
  | true =>
    rw [ha] at hnx
    refine (event_not hq.dd _ _ w hnx h).mono ?_
    rintro e w' ⟨h1, h2, h3⟩
    obtain ⟨a1, a2, a3, a4, a5, a6⟩ := hq
    exact ⟨h1, _, lg, h2, ⟨rfl, a2, a3, by show 0 ≤ q.ev + 1; omega, by show q.ev + 1 ≤ ((m + 1 : Nat) : Int); omega, a6⟩, h3, rfl, Nat.le_succ _⟩
  | false =>
    rw [ha] at hnx
    refine (event_ge hq _ _ hlg w hnx hB h).mono ?_
    rintro e w' ⟨h1, q', h2, h3, h4, h5⟩
    exact ⟨h1, q', lg + 1, h2, h3, h4, h5, Nat.le_refl _⟩
end
end Go.Proofs.YtppagdmlfgialaaGreatDoor

namespace Go.Proofs.YtppagdmlfgialaaGreatDoor
open Go Go.RowKit
set_option linter.unusedSimpArgs false
set_option linter.unusedVariables false

/-- its blocks, the cuts' with them -/
def footC (g N : Nat) (q : QD) (b : Nat) : Prop := foot g N q b ∨ q.cu.ownBlock = some b
def MovedC (g N : Nat) (q q' : QD) (w w' : World) : Prop := Turns (footC g N q) w w' ∧ ∀ b, footC g N q' b → footC g N q b ∨ w.heap.size ≤ b
theorem MovedC.trans {g N : Nat} {p q r : QD} {w v u : World} (h : MovedC g N p q w v) (k : MovedC g N q r v u) : MovedC g N p r w u :=
  ⟨h.1.trans k.1 h.2, fun b hb => by
    rcases k.2 b hb with z | z
    · exact h.2 b z
    · exact .inr (Nat.le_trans h.1.size z)⟩
section
variable {B g N k lg : Nat} {F : Nat → Nat} {q : QD}
end
end Go.Proofs.YtppagdmlfgialaaGreatDoor
