/- Small facts and contracts for the statement on numbers in bytes: bytes of a number by their places, three boxes of them in memory, that two texts of them are the same. -/
import Derived.Test.YtijacihmdfhjcaaBytesRef
namespace Go.Proofs.Ytijacihmdfhjcaa
open Go.RowKit

def Hd (p : Prop) : Prop := p
theorem hide {p : Prop} (h : p) : Hd p := h
theorem unhide {p : Prop} (h : Hd p) : p := h
def Gives (P : Program) (f : Nat) (args : Array Value) (v : Value) : Prop := ∀ w : World, Calls P f args w fun e w' => e = .returned v ∧ Below w.heap.size w w'
/-- the i-th byte of a number -/
def dg (n i : Nat) : Nat := n / 256 ^ i % 256
theorem dg_lt (n i : Nat) : dg n i < 256 := Nat.mod_lt _ (by decide)
theorem digs_dg (n k i : Nat) (h : i < k) : (digs n k).getD i 0 = (dg n i : Int) := by simp [digs, List.getD, h, dg]
structure Boxes (w : World) (b n : Nat) : Prop where
  size : b + 3 ≤ w.heap.size
  c2 : ∀ i, i < 2 → w.cell? ⟨b, i, none⟩ = some (.int .u8 (dg n i : Int))
  c4 : ∀ i, i < 4 → w.cell? ⟨b + 1, i, none⟩ = some (.int .u8 (dg n i : Int))
  c8 : ∀ i, i < 8 → w.cell? ⟨b + 1 + 1, i, none⟩ = some (.int .u8 (dg n i : Int))
theorem Boxes.below {w w' : World} {b n : Nat} (h : Boxes w b n) (hb : Below w.heap.size w w') : Boxes w' b n :=
  ⟨Nat.le_trans h.size hb.size, fun i hi => (hb.cell (p := ⟨b, i, none⟩) (by have := h.size; show b < _; omega)).trans (h.c2 i hi),
    fun i hi => (hb.cell (p := ⟨b + 1, i, none⟩) (by have := h.size; show b + 1 < _; omega)).trans (h.c4 i hi), fun i hi => (hb.cell (p := ⟨b + 1 + 1, i, none⟩) (by have := h.size; show b + 1 + 1 < _; omega)).trans (h.c8 i hi)⟩
theorem bytesEq_dg (n b1 c1 b2 c2 k : Nat) (w : World) (h1 : ∀ i, i < k → w.cell? ⟨b1, i, none⟩ = some (.int .u8 (dg n i : Int))) (h2 : ∀ i, i < k → w.cell? ⟨b2, i, none⟩ = some (.int .u8 (dg n i : Int))) :
    Calls Try.prog 12 #[.slice (some ⟨b1, 0, none⟩) k c1, .slice (some ⟨b2, 0, none⟩) k c2] w fun e w' => e = .returned (.bool true) ∧ w' = w :=
  bytesEq_any b1 c1 b2 c2 k (digs n k) (digs_length n k) w (fun i hi => by rw [digs_dg n k i hi]; exact h1 i hi) (fun i hi => by rw [digs_dg n k i hi]; exact h2 i hi)
theorem refBytes_dg (n k : Nat) (hk0 : 1 ≤ k) (hk : k ≤ 8) (hn : n < 18446744073709551616) (w : World) :
    Calls Try.prog 13 #[.int .u64 (n : Int), .int .i64 (k : Int)] w fun e w' => ∃ g c, e = .returned (.slice (some ⟨g, 0, none⟩) k c) ∧ (∀ i, i < k → w'.cell? ⟨g, i, none⟩ = some (.int .u8 (dg n i : Int))) ∧ Below w.heap.size w w' := by
  refine (refBytes_any n k hk0 hk hn w).mono ?_
  rintro e w' ⟨g, c, rfl, _, _, h, hb⟩
  exact ⟨g, c, rfl, fun i hi => by rw [← digs_dg n k i hi]; exact h i hi, hb⟩
theorem bytes16_dg (n x : Nat) (h : x = n % 65536) (w : World) :
    Calls Try.prog 8 #[.int .u16 (x : Int)] w fun e w' => e = .returned (.agg #[.int .u8 (dg n 0 : Int), .int .u8 (dg n 1 : Int)]) ∧ Below w.heap.size w w' := by
  refine (bytes16_any x w).mono ?_
  rintro e w' ⟨rfl, hb⟩
  have e0 : x % 256 = dg n 0 := by unfold dg; omega
  have e1 : x / 256 % 256 = dg n 1 := by unfold dg; omega
  rw [e0, e1]; exact ⟨rfl, hb⟩
theorem bytes32_dg (n x : Nat) (h : x = n % 4294967296) (w : World) :
    Calls Try.prog 9 #[.int .u32 (x : Int)] w fun e w' => e = .returned (.agg #[.int .u8 (dg n 0 : Int), .int .u8 (dg n 1 : Int), .int .u8 (dg n 2 : Int), .int .u8 (dg n 3 : Int)]) ∧ Below w.heap.size w w' := by
  refine (bytes32_any x w).mono ?_
  rintro e w' ⟨rfl, hb⟩
  have e0 : x % 256 = dg n 0 := by unfold dg; omega
  have e1 : x / 256 % 256 = dg n 1 := by unfold dg; omega
  have e2 : x / 65536 % 256 = dg n 2 := by unfold dg; omega
  have e3 : x / 16777216 % 256 = dg n 3 := by unfold dg; omega
  rw [e0, e1, e2, e3]; exact ⟨rfl, hb⟩
theorem bytes64_dg (n : Nat) (w : World) :
    Calls Try.prog 10 #[.int .u64 (n : Int)] w fun e w' => e = .returned (.agg #[.int .u8 (dg n 0 : Int), .int .u8 (dg n 1 : Int), .int .u8 (dg n 2 : Int), .int .u8 (dg n 3 : Int), .int .u8 (dg n 4 : Int), .int .u8 (dg n 5 : Int), .int .u8 (dg n 6 : Int), .int .u8 (dg n 7 : Int)]) ∧ Below w.heap.size w w' := by
  refine (bytes64_any n w).mono ?_
  rintro e w' ⟨rfl, hb⟩
  exact ⟨by simp [dg], hb⟩
theorem boxes_new (w : World) (n : Nat) : Boxes (((w.alloc (.cells #[.int .u8 (dg n 0 : Int), .int .u8 (dg n 1 : Int)] 23)).alloc (.cells #[.int .u8 (dg n 0 : Int), .int .u8 (dg n 1 : Int), .int .u8 (dg n 2 : Int), .int .u8 (dg n 3 : Int)] 26)).alloc
    (.cells #[.int .u8 (dg n 0 : Int), .int .u8 (dg n 1 : Int), .int .u8 (dg n 2 : Int), .int .u8 (dg n 3 : Int), .int .u8 (dg n 4 : Int), .int .u8 (dg n 5 : Int), .int .u8 (dg n 6 : Int), .int .u8 (dg n 7 : Int)] 29)) w.heap.size n := by
  refine ⟨by simp, ?_, ?_, ?_⟩
  · intro i hi
    match i, hi with
    | 0, _ => simp [go_sem]
    | 1, _ => simp [go_sem]
  · intro i hi
    match i, hi with
    | 0, _ => simp [go_sem]
    | 1, _ => simp [go_sem]
    | 2, _ => simp [go_sem]
    | 3, _ => simp [go_sem]
  · intro i hi
    match i, hi with
    | 0, _ => simp [go_sem]
    | 1, _ => simp [go_sem]
    | 2, _ => simp [go_sem]
    | 3, _ => simp [go_sem]
    | 4, _ => simp [go_sem]
    | 5, _ => simp [go_sem]
    | 6, _ => simp [go_sem]
    | 7, _ => simp [go_sem]

end Go.Proofs.Ytijacihmdfhjcaa
