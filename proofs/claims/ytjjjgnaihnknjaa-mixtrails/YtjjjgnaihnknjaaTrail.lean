/- The program's Trail, for every state, bit and number: what it returns, and that nothing below the top of the heap is changed. -/
import Derived.Test.YtjjjgnaihnknjaaApart
import Derived.Test.YtjjjgnaihnknjaaRoundsAny
import Derived.Test.YtjjjgnaihnknjaaSegs
import Derived.RegionTactic
import Derived.BigRegion
import Derived.OwnWalk
import Derived.Maps.AppendAt
namespace Go.Proofs.Ytjjjgnaihnknjaa
open Go.RowKit
set_option linter.unusedVariables false
set_option linter.unusedSimpArgs false

theorem list_move {P : Program} {ops : Array Oper} {Q : Exit → Act → World → Prop} {o : Oper} {rest : List Oper} {a : Act} {w : World} (hg : o.guard = none) (x : Operand) (ho : o.op = .move x)
    (h : wpList P ops Q rest (a.put o.dst (a.eval x)) w) : wpList P ops Q (o :: rest) a w :=
  wpList_plain hg fun _ hK => by
    unfold Oper.wp execOp
    simp only [ho, Sem.run_pure, Oper.upon_value]
    exact hK _ _ h
theorem stA_all (s : St) : (stA s).all (·.oneCell') = true := Array.all_eq_true_iff_forall_mem.2 (fun v hv => stA_one s v (by simpa using hv))
theorem at_world {Q : Exit → Act → World → Prop} {e : Exit} {a : Act} {w : World} (w' : World) (h : w = w') (hq : Q e a w') : Q e a w := by rw [h]; exact hq
theorem own_below {w w' : World} {B e size n : Nat} {v : Value} {xs : List Value} (h : w.ownsRow B e size v n xs) (hb : Below w.heap.size w w') : w'.ownsRow B e size v n xs := by
  refine ⟨h.1, ?_⟩
  rcases h.2 with hn | ⟨g, cap, cur, rfl, hg, hgg, rest⟩
  · exact .inl hn
  · exact .inr ⟨g, cap, cur, rfl, hg, by rw [hb.block g (Array.getElem?_eq_some_iff.1 hgg).1]; exact hgg, rest⟩
theorem own_drew {w : World} {B e size n : Nat} {v : Value} {xs : List Value} (h : w.ownsRow B e size v n xs) : w.drew.ownsRow B e size v n xs := h
theorem own_setRow {w : World} {B e size n g : Nat} {v : Value} {xs : List Value} (h : w.ownsRow B e size v n xs) (hg : g < B) (cs : Array Value) : (w.setRow g cs).ownsRow B e size v n xs := by
  refine ⟨h.1, ?_⟩
  rcases h.2 with hn | ⟨k, cap, cur, rfl, hk, hgg, rest⟩
  · exact .inl hn
  · exact .inr ⟨k, cap, cur, rfl, hk, by rw [setRow_other w g k cs (by omega)]; exact hgg, rest⟩
theorem own_put16 {w : World} {B e size n g : Nat} {v : Value} {xs : List Value} (h : w.ownsRow B e size v n xs) (hg : g < B) (s : St) : (put16 w g s).ownsRow B e size v n xs := by
  exact (ownsRow_setCell_below (ownsRow_setCell_below (ownsRow_setCell_below (ownsRow_setCell_below (ownsRow_setCell_below (ownsRow_setCell_below (ownsRow_setCell_below (ownsRow_setCell_below (ownsRow_setCell_below (ownsRow_setCell_below (ownsRow_setCell_below (ownsRow_setCell_below (ownsRow_setCell_below (ownsRow_setCell_below (ownsRow_setCell_below (ownsRow_setCell_below h (a := ⟨g, 0, none⟩) hg (.int .u32 (s.x0 : Int))) (a := ⟨g, 1, none⟩) hg (.int .u32 (s.x1 : Int))) (a := ⟨g, 2, none⟩) hg (.int .u32 (s.x2 : Int))) (a := ⟨g, 3, none⟩) hg (.int .u32 (s.x3 : Int))) (a := ⟨g, 4, none⟩) hg (.int .u32 (s.x4 : Int))) (a := ⟨g, 5, none⟩) hg (.int .u32 (s.x5 : Int))) (a := ⟨g, 6, none⟩) hg (.int .u32 (s.x6 : Int))) (a := ⟨g, 7, none⟩) hg (.int .u32 (s.x7 : Int))) (a := ⟨g, 8, none⟩) hg (.int .u32 (s.x8 : Int))) (a := ⟨g, 9, none⟩) hg (.int .u32 (s.x9 : Int))) (a := ⟨g, 10, none⟩) hg (.int .u32 (s.x10 : Int))) (a := ⟨g, 11, none⟩) hg (.int .u32 (s.x11 : Int))) (a := ⟨g, 12, none⟩) hg (.int .u32 (s.x12 : Int))) (a := ⟨g, 13, none⟩) hg (.int .u32 (s.x13 : Int))) (a := ⟨g, 14, none⟩) hg (.int .u32 (s.x14 : Int))) (a := ⟨g, 15, none⟩) hg (.int .u32 (s.x15 : Int)))
/-- the trail's numbers up to the k-th -/
def trailL (s : St) (b k : Nat) : List Value := (List.range (k + 1)).map fun j => Value.int .i64 (trailN s b j : Int)
theorem trailL_zero (s : St) (b : Nat) : trailL s b 0 = [Value.int .i64 (trailN s b 0 : Int)] := rfl
theorem trailL_succ (s : St) (b k : Nat) : trailL s b (k + 1) = trailL s b k ++ [Value.int .i64 (trailN s b (k + 1) : Int)] := by
  unfold trailL; rw [List.range_succ (n := k + 1), List.map_append]; rfl
theorem trailL_at (s : St) (b n k : Nat) (h : k ≤ n) : (trailL s b n)[k]? = some (Value.int .i64 (trailN s b k : Int)) := by
  unfold trailL; simp [List.getElem?_map, List.getElem?_range (show k < n + 1 by omega)]
theorem flip_val (x b : Nat) (hx : x < 4294967296) : bits .xor .u32 (x : Int) ((2 : Int) ^ (b % 32) % 4294967296) = ((x ^^^ 2 ^ (b % 32) : Nat) : Int) := by
  rw [pow32_int _ (Nat.mod_lt _ (by decide)), u32_xor_nat _ _ hx (pow_lt_u32 _ (Nat.mod_lt _ (by decide)))]

set_option maxRecDepth 100000 in
set_option maxHeartbeats 40000000 in
theorem trail_core (s t : St) (b n : Nat) (hb : b < 512) (hn : n ≤ 64) (h : s.ok) (ht : t.ok) (hf : flip s b = t) (w : World) :
    Calls Try.prog 11 #[.agg #[.int .u32 ((s).x0 : Int), .int .u32 ((s).x1 : Int), .int .u32 ((s).x2 : Int), .int .u32 ((s).x3 : Int), .int .u32 ((s).x4 : Int), .int .u32 ((s).x5 : Int), .int .u32 ((s).x6 : Int), .int .u32 ((s).x7 : Int), .int .u32 ((s).x8 : Int), .int .u32 ((s).x9 : Int), .int .u32 ((s).x10 : Int), .int .u32 ((s).x11 : Int), .int .u32 ((s).x12 : Int), .int .u32 ((s).x13 : Int), .int .u32 ((s).x14 : Int), .int .u32 ((s).x15 : Int)], .int .i64 (b : Int), .int .i64 (n : Int)] w fun e w' => ∃ v, e = .returned (.tuple #[v, .int .i64 0]) ∧ w'.ownsRow (w.heap.size + 2) 3 1 v (n + 1) (trailL s b n) ∧ Below w.heap.size w w' := by
  have hinfo : (Try.prog.info? 3).map (fun i => (i.zero, i.size, i.bytes)) = some (some (.int .i64 0), 1, 8) := by kernel_rfl
  obtain ⟨i0, hi, hz0, hz1, hz2⟩ := info_parts hinfo
  have g1 : decide ((b : Int) < 0) = false := decide_eq_false (by omega)
  have g2 : decide ((512 : Int) ≤ (b : Int)) = false := decide_eq_false (by omega)
  have g3 : decide ((n : Int) < 0) = false := decide_eq_false (by omega)
  have g4 : decide ((64 : Int) < (n : Int)) = false := decide_eq_false (by omega)
  go_enter Try.func11, Try.ntmps11
  go_wp2_with fail
  have hW3 : Blk ((w.alloc (.cells (#[.int .u32 ((s).x0 : Int), .int .u32 ((s).x1 : Int), .int .u32 ((s).x2 : Int), .int .u32 ((s).x3 : Int), .int .u32 ((s).x4 : Int), .int .u32 ((s).x5 : Int), .int .u32 ((s).x6 : Int), .int .u32 ((s).x7 : Int), .int .u32 ((s).x8 : Int), .int .u32 ((s).x9 : Int), .int .u32 ((s).x10 : Int), .int .u32 ((s).x11 : Int), .int .u32 ((s).x12 : Int), .int .u32 ((s).x13 : Int), .int .u32 ((s).x14 : Int), .int .u32 ((s).x15 : Int)]) 24)).alloc (.cells (#[.int .u32 ((s).x0 : Int), .int .u32 ((s).x1 : Int), .int .u32 ((s).x2 : Int), .int .u32 ((s).x3 : Int), .int .u32 ((s).x4 : Int), .int .u32 ((s).x5 : Int), .int .u32 ((s).x6 : Int), .int .u32 ((s).x7 : Int), .int .u32 ((s).x8 : Int), .int .u32 ((s).x9 : Int), .int .u32 ((s).x10 : Int), .int .u32 ((s).x11 : Int), .int .u32 ((s).x12 : Int), .int .u32 ((s).x13 : Int), .int .u32 ((s).x14 : Int), .int .u32 ((s).x15 : Int)]) 24)) w.heap.size 24 (stA s) := (Blk.new w 24 (stA s)).alloc _
  have hW8 : Blk ((w.alloc (.cells (#[.int .u32 ((s).x0 : Int), .int .u32 ((s).x1 : Int), .int .u32 ((s).x2 : Int), .int .u32 ((s).x3 : Int), .int .u32 ((s).x4 : Int), .int .u32 ((s).x5 : Int), .int .u32 ((s).x6 : Int), .int .u32 ((s).x7 : Int), .int .u32 ((s).x8 : Int), .int .u32 ((s).x9 : Int), .int .u32 ((s).x10 : Int), .int .u32 ((s).x11 : Int), .int .u32 ((s).x12 : Int), .int .u32 ((s).x13 : Int), .int .u32 ((s).x14 : Int), .int .u32 ((s).x15 : Int)]) 24)).alloc (.cells (#[.int .u32 ((s).x0 : Int), .int .u32 ((s).x1 : Int), .int .u32 ((s).x2 : Int), .int .u32 ((s).x3 : Int), .int .u32 ((s).x4 : Int), .int .u32 ((s).x5 : Int), .int .u32 ((s).x6 : Int), .int .u32 ((s).x7 : Int), .int .u32 ((s).x8 : Int), .int .u32 ((s).x9 : Int), .int .u32 ((s).x10 : Int), .int .u32 ((s).x11 : Int), .int .u32 ((s).x12 : Int), .int .u32 ((s).x13 : Int), .int .u32 ((s).x14 : Int), .int .u32 ((s).x15 : Int)]) 24)) (w.heap.size + 1) 24 (stA s) := by
    have e : (w.alloc (.cells (#[.int .u32 ((s).x0 : Int), .int .u32 ((s).x1 : Int), .int .u32 ((s).x2 : Int), .int .u32 ((s).x3 : Int), .int .u32 ((s).x4 : Int), .int .u32 ((s).x5 : Int), .int .u32 ((s).x6 : Int), .int .u32 ((s).x7 : Int), .int .u32 ((s).x8 : Int), .int .u32 ((s).x9 : Int), .int .u32 ((s).x10 : Int), .int .u32 ((s).x11 : Int), .int .u32 ((s).x12 : Int), .int .u32 ((s).x13 : Int), .int .u32 ((s).x14 : Int), .int .u32 ((s).x15 : Int)]) 24)).heap.size = w.heap.size + 1 := by simp
    rw [← e]
    exact Blk.new (w.alloc (.cells (stA s) 24)) 24 (stA s)
  have hWb : Below w.heap.size w ((w.alloc (.cells (#[.int .u32 ((s).x0 : Int), .int .u32 ((s).x1 : Int), .int .u32 ((s).x2 : Int), .int .u32 ((s).x3 : Int), .int .u32 ((s).x4 : Int), .int .u32 ((s).x5 : Int), .int .u32 ((s).x6 : Int), .int .u32 ((s).x7 : Int), .int .u32 ((s).x8 : Int), .int .u32 ((s).x9 : Int), .int .u32 ((s).x10 : Int), .int .u32 ((s).x11 : Int), .int .u32 ((s).x12 : Int), .int .u32 ((s).x13 : Int), .int .u32 ((s).x14 : Int), .int .u32 ((s).x15 : Int)]) 24)).alloc (.cells (#[.int .u32 ((s).x0 : Int), .int .u32 ((s).x1 : Int), .int .u32 ((s).x2 : Int), .int .u32 ((s).x3 : Int), .int .u32 ((s).x4 : Int), .int .u32 ((s).x5 : Int), .int .u32 ((s).x6 : Int), .int .u32 ((s).x7 : Int), .int .u32 ((s).x8 : Int), .int .u32 ((s).x9 : Int), .int .u32 ((s).x10 : Int), .int .u32 ((s).x11 : Int), .int .u32 ((s).x12 : Int), .int .u32 ((s).x13 : Int), .int .u32 ((s).x14 : Int), .int .u32 ((s).x15 : Int)]) 24)) := ((Below.refl _ _).alloc (Nat.le_refl _) _).alloc (by simp) _
  generalize (w.alloc (.cells (#[.int .u32 ((s).x0 : Int), .int .u32 ((s).x1 : Int), .int .u32 ((s).x2 : Int), .int .u32 ((s).x3 : Int), .int .u32 ((s).x4 : Int), .int .u32 ((s).x5 : Int), .int .u32 ((s).x6 : Int), .int .u32 ((s).x7 : Int), .int .u32 ((s).x8 : Int), .int .u32 ((s).x9 : Int), .int .u32 ((s).x10 : Int), .int .u32 ((s).x11 : Int), .int .u32 ((s).x12 : Int), .int .u32 ((s).x13 : Int), .int .u32 ((s).x14 : Int), .int .u32 ((s).x15 : Int)]) 24)).alloc (.cells (#[.int .u32 ((s).x0 : Int), .int .u32 ((s).x1 : Int), .int .u32 ((s).x2 : Int), .int .u32 ((s).x3 : Int), .int .u32 ((s).x4 : Int), .int .u32 ((s).x5 : Int), .int .u32 ((s).x6 : Int), .int .u32 ((s).x7 : Int), .int .u32 ((s).x8 : Int), .int .u32 ((s).x9 : Int), .int .u32 ((s).x10 : Int), .int .u32 ((s).x11 : Int), .int .u32 ((s).x12 : Int), .int .u32 ((s).x13 : Int), .int .u32 ((s).x14 : Int), .int .u32 ((s).x15 : Int)]) 24) = W at *
  have lx := s.at_lt h (b / 32)
  have HV : Hid (bits .xor .u32 (s.at (b / 32) : Int) ((2 : Int) ^ (b % 32) % 4294967296) = ((s.at (b / 32) ^^^ 2 ^ (b % 32) : Nat) : Int)) := flip_val _ b lx
  have cq : W.cell? ⟨w.heap.size + 1, b / 32, none⟩ = some (.int .u32 (s.at (b / 32) : Int)) := by rw [hW8.cell, stA_at s _ (by omega)]
  have fq : W.frozen? ⟨w.heap.size + 1, b / 32, none⟩ = false := by have := hW8; unfold Blk at this; simp [World.frozen?, this]
  have i0' : (0 : Int) ≤ (b : Int) / 32 := by omega
  have i1 : (b : Int) / 32 < 16 := by omega
  have i2 : ((b : Int) / 32).toNat = b / 32 := by omega
  have HI : Hid (Try.prog.info? 3 = some i0 ∧ i0.zero = some (.int .i64 0) ∧ i0.size = 1 ∧ i0.bytes = 8) := ⟨hi, hz0, hz1, hz2⟩
  clear lx hinfo hi hz0 hz1 hz2
  generalize HXX : s.at (b / 32) = x0 at *
  have HXX' : Hid (s.at (b / 32) = x0) := HXX
  have HF' : Hid (flip s b = t) := hf
  clear HXX hf
  go_region
  have hf := HF'.out
  have hxx := HXX'.out
  obtain ⟨hi, hz0, hz1, hz2⟩ := HI.out
  rw [← hxx] at HV ⊢
  clear hxx HXX' HF' HI
  refine at_world ((W.setCell ⟨w.heap.size + 1, b / 32, none⟩ (.int .u32 ((s.at (b / 32) ^^^ 2 ^ (b % 32) : Nat) : Int))).drew) (by rw [← HV.out]) ?_
  have k3 : Blk ((W.setCell ⟨w.heap.size + 1, b / 32, none⟩ (.int .u32 ((s.at (b / 32) ^^^ 2 ^ (b % 32) : Nat) : Int))).drew) w.heap.size 24 (stA s) := (hW3.put_other _ _ (by omega)).drew
  have k8 : Blk ((W.setCell ⟨w.heap.size + 1, b / 32, none⟩ (.int .u32 ((s.at (b / 32) ^^^ 2 ^ (b % 32) : Nat) : Int))).drew) (w.heap.size + 1) 24 (stA t) := by
    have := (hW8.put (b / 32) (.int .u32 ((s.at (b / 32) ^^^ 2 ^ (b % 32) : Nat) : Int))).drew
    rw [stA_set s (b / 32) _ (by omega)] at this
    rw [← hf]; exact this
  have kb : Below w.heap.size w ((W.setCell ⟨w.heap.size + 1, b / 32, none⟩ (.int .u32 ((s.at (b / 32) ^^^ 2 ^ (b % 32) : Nat) : Int))).drew) := (hWb.setCell (p := ⟨w.heap.size + 1, b / 32, none⟩) (Nat.le_succ _) _).drew
  generalize (W.setCell ⟨w.heap.size + 1, b / 32, none⟩ (.int .u32 ((s.at (b / 32) ^^^ 2 ^ (b % 32) : Nat) : Int))).drew = V at *
  clear hW3 hW8 hWb cq fq i0' i1 i2 HV
  have hA : Hid (∀ w : World, Calls Try.prog 9 #[.agg (stA s), .agg (stA t)] w fun e w' => e = .returned (.int .i64 (trailN s b 0 : Int)) ∧ Below w.heap.size w w') := fun w => by
    have := apart_any s t h ht w
    rw [← hf] at this ⊢
    exact this
  as_aux_lemma =>
    go_wp2_with (first | (refine wpList_load_row (by rfl) 24 _ (by rfl) (w.heap.size) (by rfl) 24 (stA (s)) (0, 0) _ k3 Try.underlying24 (by rfl) sizeState ?_; simp only [Act.put, List.setIfInBounds_toArray, List.set_cons_zero, List.set_cons_succ]) | (refine wpList_load_row (by rfl) 24 _ (by rfl) (w.heap.size + 1) (by rfl) 24 (stA (t)) (0, 0) _ k8 Try.underlying24 (by rfl) sizeState ?_; simp only [Act.put, List.setIfInBounds_toArray, List.set_cons_zero, List.set_cons_succ]) | fail)
    refine (hA.out _).mono ?_
    rintro e w1 ⟨rfl, hb1⟩
    have j3 := k3.below hb1 k3.lt
    have j8 := k8.below hb1 k8.lt
    have jb : Below w.heap.size w w1 := kb.trans (hb1.mono (Nat.le_of_lt k3.lt))
    have jl := j8.lt
    clear k3 k8 kb hb1
    go_wp2_with fail
    go_loopw [9, 40] (fun v i wr => ∃ k : Nat, k ≤ n ∧ i = .int .i64 k ∧ Blk wr w.heap.size 24 (stA (fwd s k)) ∧ Blk wr (w.heap.size + 1) 24 (stA (fwd t k)) ∧ wr.ownsRow (w.heap.size + 2) 3 1 v (k + 1) (trailL s b k) ∧ Below w.heap.size w wr) (fun _ i _ => n - (intOf i).toNat)
    case atStart =>
      refine ⟨0, by omega, rfl, j3.alloc _, j8.alloc _, ?_, jb.alloc (by omega) _⟩
      exact World.ownsRow_lit w1 #[.int .i64 (trailN s b 0 : Int)] 1 (by omega) (by decide) rfl
    case round =>
      obtain ⟨k, hk, rfl, hg3, hg8, hown, hbel⟩ := hrel
      have hl8 := hg8.lt
      by_cases hlt : k < n
      · have hO : Hid (∀ w : World, Calls Try.prog 39 #[.int .i64 (k : Int)] w fun e w' => e = .returned (.bool (decide (k % 2 = 1))) ∧ w' = w) := fun w => isOdd_any k w
        have hR : Hid (∀ w : World, Calls Try.prog 38 #[.agg (stA (fwd s k)), .bool (decide (k % 2 = 1))] w fun e w' => e = .returned (.agg (stA (fwd s (k + 1)))) ∧ Below w.heap.size w w') := fun w => round_any _ _ (fwd_ok s h k) w
        have hR2 : Hid (∀ w : World, Calls Try.prog 38 #[.agg (stA (fwd t k)), .bool (decide (k % 2 = 1))] w fun e w' => e = .returned (.agg (stA (fwd t (k + 1)))) ∧ Below w.heap.size w w') := fun w => round_any _ _ (fwd_ok t ht k) w
        have hA2 : Hid (∀ w : World, Calls Try.prog 9 #[.agg (stA (fwd s (k + 1))), .agg (stA (fwd t (k + 1)))] w fun e w' => e = .returned (.int .i64 (trailN s b (k + 1) : Int)) ∧ Below w.heap.size w w') := fun w => by
          have := apart_any (fwd s (k + 1)) (fwd t (k + 1)) (fwd_ok s h _) (fwd_ok t ht _) w
          unfold trailN; rw [hf]; exact this
        have hTL := trailL_succ s b k
        have HT : Hid (trailL s b (k + 1) = trailL s b k ++ [Value.int .i64 (trailN s b (k + 1) : Int)]) := hTL
        clear hTL
        generalize HX : fwd s (k + 1) = x' at *
        generalize HY : fwd t (k + 1) = y' at *
        have HX' : Hid (fwd s (k + 1) = x') := HX
        have HY' : Hid (fwd t (k + 1) = y') := HY
        clear HX HY
        generalize fwd s k = x at *
        generalize fwd t k = y at *
        generalize trailN s b (k + 1) = tv at *
        generalize decide (k % 2 = 1) = od at *
        go_wp2_with fail
        refine wp_region_parts [3, 8] [([0, 4, 1, 5], 2, false), ([], 3, false), ([], 6, false), ([], 7, false)] [] [8, 9] wr.heap.size (by kernel_rfl) (by kernel_rfl)
          (lows_two ⟨⟨w.heap.size, 0, none⟩, _, _, _, rfl, hg3.lt, hg3⟩ ⟨⟨w.heap.size + 1, 0, none⟩, _, _, _, rfl, hg8.lt, hg8⟩) (parts_force ?_)
        simp only [List.cons_append, List.nil_append, List.append_nil, List.filterMap_cons, List.filterMap_nil, List.getElem?_toArray, List.getElem?_cons_zero, List.getElem?_cons_succ]
        refine wpList_load_row (by rfl) 24 _ (by rfl) (w.heap.size) (by rfl) 24 (stA (x)) (0, 0) _ hg3.drew Try.underlying24 (by rfl) sizeState ?_
        simp only [Act.put, List.setIfInBounds_toArray, List.set_cons_zero, List.set_cons_succ]
        refine wpList_load_row (by rfl) 24 _ (by rfl) (w.heap.size + 1) (by rfl) 24 (stA (y)) (0, 0) _ hg8.drew Try.underlying24 (by rfl) sizeState ?_
        simp only [Act.put, List.setIfInBounds_toArray, List.set_cons_zero, List.set_cons_succ]
        go_wp2_with fail
        refine (hO.out _).mono ?_
        rintro e w2 ⟨rfl, rfl⟩
        go_wp2_with fail
        refine ⟨rfl, (Below.refl _ _).drew, parts_force ?_⟩
        simp only [List.cons_append, List.nil_append, List.append_nil, List.filterMap_cons, List.filterMap_nil, List.getElem?_toArray, List.getElem?_cons_zero, List.getElem?_cons_succ]
        go_wp2_with fail
        refine (hR.out _).mono ?_
        rintro e w2 ⟨rfl, hb2⟩
        have hb2' : Below wr.heap.size wr w2 := (Below.refl _ _).drew.trans (hb2.mono (Nat.le_refl _))
        have hs2 := hb2.size
        clear hb2
        go_wp2_with fail
        refine ⟨rfl, hb2', parts_force ?_⟩
        simp only [List.cons_append, List.nil_append, List.append_nil, List.filterMap_cons, List.filterMap_nil, List.getElem?_toArray, List.getElem?_cons_zero, List.getElem?_cons_succ]
        go_wp2_with fail
        refine (hO.out _).mono ?_
        rintro e w3 ⟨rfl, rfl⟩
        go_wp2_with fail
        refine ⟨rfl, hb2', parts_force ?_⟩
        simp only [List.cons_append, List.nil_append, List.append_nil, List.filterMap_cons, List.filterMap_nil, List.getElem?_toArray, List.getElem?_cons_zero, List.getElem?_cons_succ]
        go_wp2_with fail
        refine (hR2.out _).mono ?_
        rintro e w3 ⟨rfl, hb3⟩
        have hb3' : Below wr.heap.size wr w3 := hb2'.trans (hb3.mono hs2)
        clear hb3 hb2'
        go_wp2_with fail
        refine ⟨rfl, hb3', parts_last ?_⟩
        simp only [List.cons_append, List.nil_append, List.append_nil, List.filterMap_cons, List.filterMap_nil, List.getElem?_toArray, List.getElem?_cons_zero, List.getElem?_cons_succ]
        have p3 := hg3.below hb3' hg3.lt
        have p8 := hg8.below hb3' hg8.lt
        have po := own_below hown hb3'
        have pb : Below w.heap.size w w3 := hbel.trans (hb3'.mono (by omega))
        clear hg3 hg8 hown hbel hb3' hs2
        as_aux_lemma =>
          refine wpList_store_row (by rfl) 24 _ _ (by rfl) (w.heap.size) (stA x') (by rfl) (by rfl) 24 (stA x) p3 sizeState rfl (stA_all x') ?_
          simp only [Act.put, List.setIfInBounds_toArray, List.set_cons_zero, List.set_cons_succ]
          refine wpList_store_row (by rfl) 24 _ _ (by rfl) (w.heap.size + 1) (stA y') (by rfl) (by rfl) 24 (stA y) (p8.other (stA x') (by omega)) sizeState rfl (stA_all y') ?_
          simp only [Act.put, List.setIfInBounds_toArray, List.set_cons_zero, List.set_cons_succ]
          refine ⟨rfl, ?_⟩
          have q3 : Blk ((w3.setRow w.heap.size (stA x')).setRow (w.heap.size + 1) (stA y')) w.heap.size 24 (stA x') := (p3.set (stA x')).other (stA y') (by omega)
          have q8 : Blk ((w3.setRow w.heap.size (stA x')).setRow (w.heap.size + 1) (stA y')) (w.heap.size + 1) 24 (stA y') := (p8.other (stA x') (by omega)).set (stA y')
          have qo := own_setRow (g := w.heap.size + 1) (own_setRow (g := w.heap.size) po (by omega) (stA x')) (by omega) (stA y')
          have qb : Below w.heap.size w ((w3.setRow w.heap.size (stA x')).setRow (w.heap.size + 1) (stA y')) := below_setRow (below_setRow pb (Nat.le_refl _) (stA x')) (Nat.le_succ _) (stA y')
          clear p3 p8 po pb
          generalize (w3.setRow w.heap.size (stA x')).setRow (w.heap.size + 1) (stA y') = w4 at *
          have ql := q8.lt
          obtain ⟨c0, c1, c2, c3, c4, c5, c6, c7, c8, c9, c10, c11, c12, c13, c14, c15⟩ := q3.cells
          obtain ⟨d0, d1, d2, d3, d4, d5, d6, d7, d8, d9, d10, d11, d12, d13, d14, d15⟩ := q8.cells
          go_wp2_with fail
          refine (hA2.out _).mono ?_
          rintro e w5 ⟨rfl, hb5⟩
          have r3 := q3.below hb5 q3.lt
          have r8 := q8.below hb5 q8.lt
          have ro := own_below qo hb5
          have rb : Below w.heap.size w w5 := qb.trans (hb5.mono (by omega))
          have rl := r8.lt
          clear q3 q8 qo qb hb5 ql c0 c1 c2 c3 c4 c5 c6 c7 c8 c9 c10 c11 c12 c13 c14 c15 d0 d1 d2 d3 d4 d5 d6 d7 d8 d9 d10 d11 d12 d13 d14 d15
          have rv := ro.lt
          go_wp2_with (first
            | (at_builtin; refine wpList_append_own _ rfl _ _ 31 rfl (w.heap.size + 2) 3 i0 (.int .i64 0) 1 8 Try.underlying31 hi hz0 hz1 hz2 rfl (by decide) _ _ _ rfl (ro.alloc _) ⟨w5.heap.size, 0, none⟩ 1 1 [.int .i64 (tv : Int)] rfl rfl (cell_one_new _ _ _) (fun x hx => by simp at hx; subst hx; rfl) (by unfold maxLen; omega) (by omega) (by simp; omega) ?_)
            | go_in)
          intro v' w6 hown' hgrow _
          have hbg : Below (w.heap.size + 2) (w5.alloc (.cells #[.int .i64 (tv : Int)] 3)) w6 := (Below.refl _ _).grown hgrow (by simp; omega) (fun k hk => (rv k hk).1)
          have hb6 : Below w.heap.size w w6 := (rb.alloc (by omega) _).trans (hbg.mono (by omega))
          have t3 := (r3.alloc (.cells #[.int .i64 (tv : Int)] 3)).below hbg (by omega)
          have t8 := (r8.alloc (.cells #[.int .i64 (tv : Int)] 3)).below hbg (by omega)
          clear r3 r8 ro rb rl rv hgrow hbg
          go_wp2_with fail
          go_roundw
          case rel =>
            refine ⟨k + 1, by omega, by go_num, ?_, ?_, ?_, hb6⟩
            · rw [HX'.out]; exact t3
            · rw [HY'.out]; exact t8
            · rw [HT.out]; exact hown'
          case measure => simp [intOf]; omega
      · have : k = n := by omega
        subst this
        clear hg3 hg8
        go_wp2_with fail
        go_returns
        exact ⟨_, rfl, hown, hbel⟩

theorem trail_ok (s : St) (h : s.ok) (b n : Nat) (hb : b < 512) (hn : n ≤ 64) (w : World) :
    Calls Try.prog 11 #[.agg (stA s), .int .i64 (b : Int), .int .i64 (n : Int)] w fun e w' => ∃ v, e = .returned (.tuple #[v, .int .i64 0]) ∧ w'.ownsRow (w.heap.size + 2) 3 1 v (n + 1) (trailL s b n) ∧ Below w.heap.size w w' :=
  trail_core s (flip s b) b n hb hn h (flip_ok s h b) rfl w

set_option maxHeartbeats 2000000 in
theorem trail_bad (s : St) (z n : Int) (hbad : z < 0 ∨ 511 < z ∨ n < 0 ∨ 64 < n) (w : World) :
    Calls Try.prog 11 #[.agg (stA s), .int .i64 z, .int .i64 n] w fun e w' => e = .returned (.tuple #[.slice none 0 0, .int .i64 1]) ∧ Below w.heap.size w w' := by
  by_cases g1 : z < 0
  · have g1' : decide (z < 0) = true := decide_eq_true g1
    go_enter Try.func11, Try.ntmps11
    go_wp2_with fail
    go_returns
    exact ⟨rfl, (Below.refl _ _).alloc (Nat.le_refl _) _⟩
  · have g1' : decide (z < 0) = false := decide_eq_false g1
    by_cases g2 : 512 ≤ z
    · have g2' : decide (512 ≤ z) = true := decide_eq_true g2
      go_enter Try.func11, Try.ntmps11
      go_wp2_with fail
      go_returns
      exact ⟨rfl, (Below.refl _ _).alloc (Nat.le_refl _) _⟩
    · have g2' : decide (512 ≤ z) = false := decide_eq_false g2
      by_cases g3 : n < 0
      · have g3' : decide (n < 0) = true := decide_eq_true g3
        go_enter Try.func11, Try.ntmps11
        go_wp2_with fail
        go_returns
        exact ⟨rfl, (Below.refl _ _).alloc (Nat.le_refl _) _⟩
      · have g3' : decide (n < 0) = false := decide_eq_false g3
        have g4' : decide (64 < n) = true := decide_eq_true (by omega)
        go_enter Try.func11, Try.ntmps11
        go_wp2_with fail
        go_returns
        exact ⟨rfl, (Below.refl _ _).alloc (Nat.le_refl _) _⟩

end Go.Proofs.Ytjjjgnaihnknjaa
