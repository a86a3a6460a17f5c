/- Two states compared: true just if they are the same; in whatever world, which stays. -/
import Derived.Laws.BitsAllLaws
import Derived.Laws.Bits64
import Derived.Laws.Rows
import Derived.Laws.Tables
import Derived.Laws.CopyOwn
import Derived.Below
import Derived.Deep.MidRow
import Derived.Test.YtjlngldmdfbbaaaDoorRows
import Derived.Handy
import Derived.Lib.Tables
import Derived.Lib.BitFns
import Derived.Lib.TrailingZeros
import Derived.WalkKit
import Derived.ProofKit
import Derived.OpenShut
import Derived.WalkSpells
import Derived.ChangeKeysEq

namespace Go.Proofs.YtjlngldmdfbbaaaDoor

theorem pow_lt_u64 (k : Nat) (h : k < 64) : 2 ^ k < 18446744073709551616 := by
  have : (18446744073709551616 : Nat) = 2 ^ 64 := by decide
  rw [this]; exact Nat.pow_lt_pow_right (by decide) h
theorem wrapU64 (n : Nat) (h : n < 18446744073709551616) : IntKind.u64.wrap (n : Int) = n := by
  rw [IntKind.wrap_u64]; omega
theorem lt64_bit (x j : Nat) (hx : x < 18446744073709551616) (hj : 64 ≤ j) : x.testBit j = false :=
  Nat.testBit_lt_two_pow (Nat.lt_of_lt_of_le hx (by
    have : (18446744073709551616 : Nat) = 2 ^ 64 := by decide
    rw [this]; exact Nat.pow_le_pow_right (by decide) hj))

end Go.Proofs.YtjlngldmdfbbaaaDoor

namespace Go.Proofs.YtjlngldmdfbbaaaDoor

theorem wrapI64 (a : Int) : IntKind.i64.wrap a = if a % 18446744073709551616 ≥ 9223372036854775808 then a % 18446744073709551616 - 18446744073709551616 else a % 18446744073709551616 := by
  simp [IntKind.wrap, IntKind.bits, IntKind.signed]
theorem wrapI64_id (a : Int) (h1 : -9223372036854775808 ≤ a) (h2 : a < 9223372036854775808) : IntKind.i64.wrap a = a := by
  rw [wrapI64]; split <;> omega

end Go.Proofs.YtjlngldmdfbbaaaDoor

namespace Go.Proofs.YtjlngldmdfbbaaaDoor

/-- how many of the lowest k bits are 1 -/
def onesTo (x : Nat) : Nat → Nat
  | 0 => 0
  | k + 1 => onesTo x k + if x.testBit k then 1 else 0
theorem onesTo_le (x k : Nat) : onesTo x k ≤ k := by
  induction k with
  | zero => exact Nat.le_refl _
  | succ k ih => unfold onesTo; split <;> omega
theorem onesTo_lo (b v k : Nat) (hb : b < 256) (hk : k ≤ 8) : onesTo (b + 256 * v) k = onesTo b k := by
  induction k with
  | zero => rfl
  | succ k ih =>
    unfold onesTo
    rw [ih (by omega)]
    have e : (b + 256 * v).testBit k = b.testBit k := by
      have h := Nat.testBit_two_pow_mul_add v (show b < 2 ^ 8 from hb) k
      rw [show (2 : Nat) ^ 8 = 256 from rfl, if_pos (by omega), Nat.add_comm] at h
      exact h
    rw [e]
theorem onesTo_hi (b v k : Nat) (hb : b < 256) : onesTo (b + 256 * v) (8 + k) = onesTo b 8 + onesTo v k := by
  induction k with
  | zero => exact onesTo_lo b v 8 hb (by decide)
  | succ k ih =>
    rw [show 8 + (k + 1) = (8 + k) + 1 from rfl]
    conv => lhs; unfold onesTo
    conv => rhs; rhs; unfold onesTo
    rw [ih]
    have e : (b + 256 * v).testBit (8 + k) = v.testBit k := by
      have h := Nat.testBit_two_pow_mul_add v (show b < 2 ^ 8 from hb) (8 + k)
      rw [show (2 : Nat) ^ 8 = 256 from rfl, if_neg (by omega), Nat.add_comm, Nat.add_sub_cancel_left] at h
      exact h
    rw [e]; omega

/-- a word out of bytes, the lowest first -/
def val : List Nat → Nat
  | [] => 0
  | b :: r => b + 256 * val r
def sum : List Nat → Nat
  | [] => 0
  | b :: r => b + sum r
theorem onesTo_val : ∀ l : List Nat, (∀ b ∈ l, b < 256) → onesTo (val l) (8 * l.length) = sum (l.map fun b => onesTo b 8)
  | [], _ => rfl
  | b :: r, h => by
    have ih := onesTo_val r (fun c hc => h c (List.mem_cons_of_mem _ hc))
    simp only [val, List.length_cons, List.map_cons, sum]
    rw [show 8 * (r.length + 1) = 8 + 8 * r.length by omega, onesTo_hi b (val r) _ (h b List.mem_cons_self), ih]

theorem and_split (a b c d m : Nat) (ha : a < 2 ^ m) (hc : c < 2 ^ m) : (a + 2 ^ m * b) &&& (c + 2 ^ m * d) = (a &&& c) + 2 ^ m * (b &&& d) := by
  apply Nat.eq_of_testBit_eq
  intro j
  have hac : a &&& c < 2 ^ m := Nat.lt_of_le_of_lt Nat.and_le_left ha
  rw [Nat.testBit_and, Nat.add_comm a, Nat.add_comm c, Nat.add_comm (a &&& c), Nat.testBit_two_pow_mul_add _ ha, Nat.testBit_two_pow_mul_add _ hc, Nat.testBit_two_pow_mul_add _ hac]
  by_cases h : j < m
  · simp [h]
  · simp [h]
theorem and256 (a b c d : Nat) (ha : a < 256) (hc : c < 256) : (a + 256 * b) &&& (c + 256 * d) = (a &&& c) + 256 * (b &&& d) := and_split a b c d 8 ha hc

def rep (M : Nat) : Nat → Nat
  | 0 => 0
  | n + 1 => M + 256 * rep M n

/-- bits of all bytes at once: shifted to the right by s, under a mask that lets none of the next byte in -/
theorem shift_mask (s M : Nat) (hs : s ≤ 8) (hM : M < 2 ^ (8 - s)) : ∀ l : List Nat, (∀ b ∈ l, b < 256) → (val l / 2 ^ s) &&& rep M l.length = val (l.map fun b => (b / 2 ^ s) &&& M)
  | [], _ => by simp [val, rep]
  | b :: r, h => by
    have ih := shift_mask s M hs hM r (fun c hc => h c (List.mem_cons_of_mem _ hc))
    have hb := h b List.mem_cons_self
    simp only [val, List.length_cons, List.map_cons, rep]
    have p : 2 ^ s * 2 ^ (8 - s) = 256 := by
      rw [← Nat.pow_add]
      have : s + (8 - s) = 8 := by omega
      rw [this]
    have p0 := Nat.two_pow_pos s
    have p1 := Nat.two_pow_pos (8 - s)
    have q1 : b / 2 ^ s < 2 ^ (8 - s) := Nat.div_lt_of_lt_mul (by rw [p]; exact hb)
    have q2 : val r % 2 ^ s < 2 ^ s := Nat.mod_lt _ p0
    have e1 : (b + 256 * val r) / 2 ^ s = (b / 2 ^ s + 2 ^ (8 - s) * (val r % 2 ^ s)) + 256 * (val r / 2 ^ s) := by
      have f1 : b + 256 * val r = b + 2 ^ s * (2 ^ (8 - s) * val r) := by rw [← Nat.mul_assoc, p]
      rw [f1, Nat.add_mul_div_left _ _ p0]
      have f2 := Nat.div_add_mod (val r) (2 ^ s)
      have f3 : 2 ^ (8 - s) * val r = 256 * (val r / 2 ^ s) + 2 ^ (8 - s) * (val r % 2 ^ s) := by
        conv => lhs; rw [← f2]
        rw [Nat.mul_add, ← Nat.mul_assoc, Nat.mul_comm (2 ^ (8 - s)), p]
      omega
    have q3 : b / 2 ^ s + 2 ^ (8 - s) * (val r % 2 ^ s) < 256 := by
      have g1 : 2 ^ (8 - s) * (val r % 2 ^ s) ≤ 2 ^ (8 - s) * (2 ^ s - 1) := Nat.mul_le_mul_left _ (by omega)
      rw [Nat.mul_sub, Nat.mul_comm _ (2 ^ s), p, Nat.mul_one] at g1
      generalize 2 ^ (8 - s) * (val r % 2 ^ s) = z at *
      have : 2 ^ (8 - s) ≤ 256 := by rw [← p]; exact Nat.le_mul_of_pos_left _ p0
      omega
    have q4 : M < 256 := Nat.lt_of_lt_of_le hM (by rw [← p]; exact Nat.le_mul_of_pos_left _ p0)
    have e2 : (b / 2 ^ s + 2 ^ (8 - s) * (val r % 2 ^ s)) &&& M = (b / 2 ^ s) &&& M := by
      have := and_split (b / 2 ^ s) (val r % 2 ^ s) M 0 (8 - s) q1 hM
      simpa using this
    rw [e1, and256 _ _ _ _ q3 q4, e2, ih]

theorem val_add : ∀ l : List Nat, ∀ f g : Nat → Nat, val (l.map f) + val (l.map g) = val (l.map fun b => f b + g b)
  | [], _, _ => rfl
  | b :: r, f, g => by
    have := val_add r f g
    simp only [List.map_cons, val]; omega

/-- the third step: nibbles that are small are added with no mask ahead -/
theorem nibbles : ∀ l : List Nat, (∀ b ∈ l, b / 16 ≤ 4 ∧ b % 16 ≤ 4) → (val l / 16 + val l) &&& rep 15 l.length = val (l.map fun b => (b / 16 + b) &&& 15)
  | [], _ => by simp [val, rep]
  | b :: r, h => by
    have hr := fun c hc => h c (List.mem_cons_of_mem b hc)
    have ih := nibbles r hr
    have hb := h b List.mem_cons_self
    simp only [val, List.length_cons, List.map_cons, rep]
    have hv : val r % 16 ≤ 4 := by
      match r, hr with
      | [], _ => simp [val]
      | c :: r', hr => have := (hr c List.mem_cons_self).2; simp only [val]; omega
    have e1 : (b + 256 * val r) / 16 + (b + 256 * val r) = (b / 16 + b + 16 * (val r % 16)) + 256 * (val r / 16 + val r) := by omega
    have e2 : (b / 16 + b + 16 * (val r % 16)) &&& 15 = (b / 16 + b) &&& 15 := by
      rw [Nat.and_two_pow_sub_one_eq_mod _ 4, Nat.and_two_pow_sub_one_eq_mod _ 4]; omega
    rw [e1, and256 _ _ _ _ (by omega) (by decide), e2, ih]

def f1 (b : Nat) : Nat := ((b / 2) &&& 85) + (b &&& 85)
def f2 (b : Nat) : Nat := ((b / 4) &&& 51) + (b &&& 51)
def f3 (b : Nat) : Nat := (b / 16 + b) &&& 15
theorem bytes_ok : ∀ b : Fin 256, f1 b.val < 256 ∧ f2 (f1 b.val) / 16 ≤ 4 ∧ f2 (f1 b.val) % 16 ≤ 4 ∧ f3 (f2 (f1 b.val)) = onesTo b.val 8 := by decide +kernel

def bytesOf (x : Nat) : List Nat := [x % 256, x / 256 % 256, x / 65536 % 256, x / 16777216 % 256, x / 4294967296 % 256, x / 1099511627776 % 256, x / 281474976710656 % 256, x / 72057594037927936 % 256]
theorem bytesOf_lt (x : Nat) : ∀ b ∈ bytesOf x, b < 256 := by
  intro b hb
  simp only [bytesOf, List.mem_cons, List.not_mem_nil, or_false] at hb
  rcases hb with h | h | h | h | h | h | h | h <;> omega
theorem val_bytesOf (x : Nat) (hx : x < 18446744073709551616) : val (bytesOf x) = x := by
  simp only [bytesOf, val]; omega

theorem step1 (x : Nat) (hx : x < 18446744073709551616) : ((x / 2) &&& 6148914691236517205) + (x &&& 6148914691236517205) = val ((bytesOf x).map f1) := by
  have h := bytesOf_lt x
  have a := shift_mask 1 85 (by decide) (by decide) (bytesOf x) h
  have b := shift_mask 0 85 (by decide) (by decide) (bytesOf x) h
  rw [val_bytesOf x hx] at a b
  have r : rep 85 (bytesOf x).length = 6148914691236517205 := show rep 85 8 = 6148914691236517205 by decide
  rw [r] at a b
  simp only [Nat.pow_zero, Nat.div_one] at b
  rw [show (2 : Nat) ^ 1 = 2 from rfl] at a
  rw [a, b, val_add]; rfl
theorem step2 (l : List Nat) (hl : l.length = 8) (h : ∀ b ∈ l, b < 256) : ((val l / 4) &&& 3689348814741910323) + (val l &&& 3689348814741910323) = val (l.map f2) := by
  have a := shift_mask 2 51 (by decide) (by decide) l h
  have b := shift_mask 0 51 (by decide) (by decide) l h
  have r : rep 51 l.length = 3689348814741910323 := by rw [hl]; decide
  rw [r] at a b
  simp only [Nat.pow_zero, Nat.div_one] at b
  rw [show (2 : Nat) ^ 2 = 4 from rfl] at a
  rw [a, b, val_add]; rfl
theorem step3 (l : List Nat) (hl : l.length = 8) (h : ∀ b ∈ l, b / 16 ≤ 4 ∧ b % 16 ≤ 4) : (val l / 16 + val l) &&& 1085102592571150095 = val (l.map f3) := by
  have a := nibbles l h
  have r : rep 15 l.length = 1085102592571150095 := by rw [hl]; decide
  rw [r] at a
  exact a

theorem div_low (a m R : Nat) (h : a < m) : (a + m * R) / m = R := by
  rw [Nat.add_mul_div_left _ _ (by omega), Nat.div_eq_of_lt h, Nat.zero_add]

/-- the last steps: eight bytes of at most 8 each are added up -/
theorem fold8 (p0 p1 p2 p3 p4 p5 p6 p7 : Nat) (h0 : p0 ≤ 8) (h1 : p1 ≤ 8) (h2 : p2 ≤ 8) (h3 : p3 ≤ 8) (h4 : p4 ≤ 8) (h5 : p5 ≤ 8) (h6 : p6 ≤ 8) (h7 : p7 ≤ 8)
    (y z1 z2 z3 : Nat) (hy : y = val [p0, p1, p2, p3, p4, p5, p6, p7]) (hz1 : z1 = y + y / 256) (hz2 : z2 = z1 + z1 / 65536) (hz3 : z3 = z2 + z2 / 4294967296) :
    y < 18446744073709551616 ∧ z1 < 18446744073709551616 ∧ z2 < 18446744073709551616 ∧ z3 < 9223372036854775808 ∧ z3 % 128 = p0 + p1 + p2 + p3 + p4 + p5 + p6 + p7 := by
  simp only [val] at hy
  have e1 : y / 256 = p1 + 256 * (p2 + 256 * (p3 + 256 * (p4 + 256 * (p5 + 256 * (p6 + 256 * (p7 + 256 * 0)))))) := by
    rw [hy]; exact div_low _ _ _ (by omega)
  have k1 : z1 = ((p0 + p1) + 256 * (p1 + p2)) + 65536 * ((p2 + p3) + 256 * ((p3 + p4) + 256 * ((p4 + p5) + 256 * ((p5 + p6) + 256 * ((p6 + p7) + 256 * p7))))) := by
    rw [hz1, e1, hy]; clear e1 hz1 hz2 hz3 hy; omega
  have e2 : z1 / 65536 = (p2 + p3) + 256 * ((p3 + p4) + 256 * ((p4 + p5) + 256 * ((p5 + p6) + 256 * ((p6 + p7) + 256 * p7)))) := by
    rw [k1]; exact div_low _ _ _ (by omega)
  have k2 : z2 = ((p0 + p1 + p2 + p3) + 256 * (p1 + p2 + p3 + p4) + 65536 * (p2 + p3 + p4 + p5) + 16777216 * (p3 + p4 + p5 + p6)) + 4294967296 * ((p4 + p5 + p6 + p7) + 256 * (p5 + p6 + p7) + 65536 * (p6 + p7) + 16777216 * p7) := by
    rw [hz2, e2, k1]; clear e1 e2 k1 hz1 hz2 hz3 hy; omega
  have e3 : z2 / 4294967296 = (p4 + p5 + p6 + p7) + 256 * (p5 + p6 + p7) + 65536 * (p6 + p7) + 16777216 * p7 := by
    rw [k2]; exact div_low _ _ _ (by omega)
  have k3 : z3 = (p0 + p1 + p2 + p3 + p4 + p5 + p6 + p7) + 128 * (2 * (p1 + p2 + p3 + p4 + p5 + p6 + p7) + 512 * (p2 + p3 + p4 + p5 + p6 + p7) + 131072 * (p3 + p4 + p5 + p6 + p7) + 33554432 * ((p4 + p5 + p6 + p7) + 256 * (p5 + p6 + p7) + 65536 * (p6 + p7) + 16777216 * p7)) := by
    rw [hz3, e3, k2]; clear e1 e2 e3 k1 k2 hz1 hz2 hz3 hy; omega
  refine ⟨?_, ?_, ?_, ?_, ?_⟩
  · rw [hy]; clear e1 e2 e3 k1 k2 k3 hz1 hz2 hz3 hy; omega
  · rw [k1]; clear e1 e2 e3 k1 k2 k3 hz1 hz2 hz3 hy; omega
  · rw [k2]; clear e1 e2 e3 k1 k2 k3 hz1 hz2 hz3 hy; omega
  · rw [k3]; clear e1 e2 e3 k1 k2 k3 hz1 hz2 hz3 hy; omega
  · rw [k3, Nat.add_mul_mod_self_left, Nat.mod_eq_of_lt]; clear e1 e2 e3 k1 k2 k3 hz1 hz2 hz3 hy; omega

end Go.Proofs.YtjlngldmdfbbaaaDoor

namespace Go.Proofs.YtjlngldmdfbbaaaDoor

/-- four words -/
structure Q4 where
  a : Nat
  b : Nat
  c : Nat
  d : Nat
  deriving DecidableEq
def Q4.ok (q : Q4) : Prop := q.a < 4294967296 ∧ q.b < 4294967296 ∧ q.c < 4294967296 ∧ q.d < 4294967296

end Go.Proofs.YtjlngldmdfbbaaaDoor

namespace Go.Proofs.YtjlngldmdfbbaaaDoor

structure St where
  x0 : Nat
  x1 : Nat
  x2 : Nat
  x3 : Nat
  x4 : Nat
  x5 : Nat
  x6 : Nat
  x7 : Nat
  x8 : Nat
  x9 : Nat
  x10 : Nat
  x11 : Nat
  x12 : Nat
  x13 : Nat
  x14 : Nat
  x15 : Nat
  deriving DecidableEq

def St.ok (s : St) : Prop := s.x0 < 4294967296 ∧ s.x1 < 4294967296 ∧ s.x2 < 4294967296 ∧ s.x3 < 4294967296 ∧ s.x4 < 4294967296 ∧ s.x5 < 4294967296 ∧ s.x6 < 4294967296 ∧ s.x7 < 4294967296 ∧ s.x8 < 4294967296 ∧ s.x9 < 4294967296 ∧ s.x10 < 4294967296 ∧ s.x11 < 4294967296 ∧ s.x12 < 4294967296 ∧ s.x13 < 4294967296 ∧ s.x14 < 4294967296 ∧ s.x15 < 4294967296
def stA (s : St) : Array Value := #[.int .u32 (s.x0 : Int), .int .u32 (s.x1 : Int), .int .u32 (s.x2 : Int), .int .u32 (s.x3 : Int), .int .u32 (s.x4 : Int), .int .u32 (s.x5 : Int), .int .u32 (s.x6 : Int), .int .u32 (s.x7 : Int), .int .u32 (s.x8 : Int), .int .u32 (s.x9 : Int), .int .u32 (s.x10 : Int), .int .u32 (s.x11 : Int), .int .u32 (s.x12 : Int), .int .u32 (s.x13 : Int), .int .u32 (s.x14 : Int), .int .u32 (s.x15 : Int)]
def St.zero : St := ⟨0, 0, 0, 0, 0, 0, 0, 0, 0, 0, 0, 0, 0, 0, 0, 0⟩

/-- the word at a place -/
def St.at (s : St) : Nat → Nat
  | 0 => s.x0
  | 1 => s.x1
  | 2 => s.x2
  | 3 => s.x3
  | 4 => s.x4
  | 5 => s.x5
  | 6 => s.x6
  | 7 => s.x7
  | 8 => s.x8
  | 9 => s.x9
  | 10 => s.x10
  | 11 => s.x11
  | 12 => s.x12
  | 13 => s.x13
  | 14 => s.x14
  | 15 => s.x15
  | _ => 0
end Go.Proofs.YtjlngldmdfbbaaaDoor

namespace Go.Proofs.YtjlngldmdfbbaaaDoor
open Go Go.RowKit

/-- block g holds the cells, of type t -/
def Blk (w : World) (g : Nat) (t : TypeId) (cs : Array Value) : Prop := w.heap[g]? = some (.cells cs t (0, 0))

theorem Blk.lt {w : World} {g : Nat} {t : TypeId} {cs : Array Value} (h : Blk w g t cs) : g < w.heap.size := (Array.getElem?_eq_some_iff.1 h).1
theorem Blk.below {w w' : World} {g B : Nat} {t : TypeId} {cs : Array Value} (h : Blk w g t cs) (hb : Below B w w') (hg : g < B) : Blk w' g t cs := by
  unfold Blk at *; rw [hb.block g hg]; exact h
theorem Blk.drew {w : World} {g : Nat} {t : TypeId} {cs : Array Value} (h : Blk w g t cs) : Blk w.drew g t cs := h
theorem Blk.alloc {w : World} {g : Nat} {t : TypeId} {cs : Array Value} (h : Blk w g t cs) (o : Obj) : Blk (w.alloc o) g t cs := by
  have := h.lt
  unfold Blk at *; rw [Below.heap_alloc w o g this]; exact h
theorem Blk.new (w : World) (t : TypeId) (cs : Array Value) : Blk (w.alloc (.cells cs t)) w.heap.size t cs := heap_alloc_new w _
theorem Blk.set {w : World} {g : Nat} {t : TypeId} {old : Array Value} (h : Blk w g t old) (cs : Array Value) : Blk (w.setRow g cs) g t cs := setRow_heap w g old cs t _ h
theorem Blk.other {w : World} {g k : Nat} {t : TypeId} {old : Array Value} (h : Blk w k t old) (cs : Array Value) (hk : k ≠ g) : Blk (w.setRow g cs) k t old := by
  unfold Blk at *; rw [setRow_other w g k cs hk]; exact h
theorem Blk.cell {w : World} {g : Nat} {t : TypeId} {cs : Array Value} (h : Blk w g t cs) (i : Nat) : w.cell? ⟨g, i, none⟩ = cs[i]? := cell_of_row _ _ i cs t (0, 0) h

theorem Blk.load {P : Program} {w : World} {g : Nat} {t : TypeId} {cs : Array Value} (h : Blk w g t cs) {n : Nat} (hn : cs.size = n) :
    (loadCellsFrom ⟨g, 0, none⟩ 0 n #[]).run P w = .ok cs w := by
  subst hn
  have := run_loadCells_list (P := P) w ⟨g, 0, none⟩ cs.toList (fun j v hv => by
    have hadd : (⟨g, 0, none⟩ : Addr).add j = ⟨g, j, none⟩ := by unfold Addr.add; split <;> simp_all
    rw [hadd, h.cell]
    simpa using hv)
  simpa [loadCells] using this
theorem Blk.store {P : Program} {w : World} {g : Nat} {t : TypeId} {old : Array Value} (h : Blk w g t old) (cs : Array Value) (hn : old.size = cs.size) (h1 : ∀ v ∈ cs.toList, v.oneCell' = true) :
    (storeCells ⟨g, 0, none⟩ cs.toList 0).run P w = .ok () (w.setRow g cs) := by
  have := run_storeCells_from (P := P) g t cs.toList 0 old w h (by simp; omega) h1
  rw [this]; simp
/-- sixteen cells, of a state -/
structure Cells (w : World) (g : Nat) (s : St) : Prop where
  c0 : w.cell? ⟨g, 0, none⟩ = some (.int .u32 (s.x0 : Int))
  c1 : w.cell? ⟨g, 1, none⟩ = some (.int .u32 (s.x1 : Int))
  c2 : w.cell? ⟨g, 2, none⟩ = some (.int .u32 (s.x2 : Int))
  c3 : w.cell? ⟨g, 3, none⟩ = some (.int .u32 (s.x3 : Int))
  c4 : w.cell? ⟨g, 4, none⟩ = some (.int .u32 (s.x4 : Int))
  c5 : w.cell? ⟨g, 5, none⟩ = some (.int .u32 (s.x5 : Int))
  c6 : w.cell? ⟨g, 6, none⟩ = some (.int .u32 (s.x6 : Int))
  c7 : w.cell? ⟨g, 7, none⟩ = some (.int .u32 (s.x7 : Int))
  c8 : w.cell? ⟨g, 8, none⟩ = some (.int .u32 (s.x8 : Int))
  c9 : w.cell? ⟨g, 9, none⟩ = some (.int .u32 (s.x9 : Int))
  c10 : w.cell? ⟨g, 10, none⟩ = some (.int .u32 (s.x10 : Int))
  c11 : w.cell? ⟨g, 11, none⟩ = some (.int .u32 (s.x11 : Int))
  c12 : w.cell? ⟨g, 12, none⟩ = some (.int .u32 (s.x12 : Int))
  c13 : w.cell? ⟨g, 13, none⟩ = some (.int .u32 (s.x13 : Int))
  c14 : w.cell? ⟨g, 14, none⟩ = some (.int .u32 (s.x14 : Int))
  c15 : w.cell? ⟨g, 15, none⟩ = some (.int .u32 (s.x15 : Int))
theorem Blk.cells {w : World} {g : Nat} {t : TypeId} {s : St} (h : Blk w g t (stA s)) : Cells w g s :=
  ⟨by rw [h.cell]; rfl, by rw [h.cell]; rfl, by rw [h.cell]; rfl, by rw [h.cell]; rfl, by rw [h.cell]; rfl, by rw [h.cell]; rfl, by rw [h.cell]; rfl, by rw [h.cell]; rfl, by rw [h.cell]; rfl, by rw [h.cell]; rfl, by rw [h.cell]; rfl, by rw [h.cell]; rfl, by rw [h.cell]; rfl, by rw [h.cell]; rfl, by rw [h.cell]; rfl, by rw [h.cell]; rfl⟩
theorem Blk.put {w : World} {g : Nat} {t : TypeId} {cs : Array Value} (h : Blk w g t cs) (i : Nat) (v : Value) : Blk (w.setCell ⟨g, i, none⟩ v) g t (cs.setIfInBounds i v) := by
  rw [setCell_eq_setRow w g i cs t (0, 0) v h]; exact h.set _
theorem Blk.put_other {w : World} {g k : Nat} {t : TypeId} {cs : Array Value} (h : Blk w k t cs) (i : Nat) (v : Value) (hk : k ≠ g) : Blk (w.setCell ⟨g, i, none⟩ v) k t cs := by
  unfold Blk at *; rw [Below.heap_setCell w ⟨g, i, none⟩ v k hk]; exact h
end Go.Proofs.YtjlngldmdfbbaaaDoor

namespace Go.Proofs.YtjlngldmdfbbaaaDoor
open Go Go.RowKit

def va (n : Nat) (f : Nat → Value) : Array Value := ((List.range n).map f).toArray
theorem va_size (n : Nat) (f : Nat → Value) : (va n f).size = n := by simp [va]
theorem va_at {n : Nat} (f : Nat → Value) {i : Nat} (h : i < n) : (va n f)[i]? = some (f i) := by simp [va, h]
theorem va_ext {n : Nat} {f : Nat → Value} {a : Array Value} (hs : a.size = n) (h : ∀ i, i < n → a[i]? = some (f i)) : a = va n f := by
  apply Array.ext_getElem?
  intro i
  by_cases hi : i < n
  · rw [h i hi, va_at f hi]
  · rw [Array.getElem?_eq_none (by omega), Array.getElem?_eq_none (by rw [va_size]; omega)]
theorem va_congr {n : Nat} {f g : Nat → Value} (h : ∀ i, i < n → f i = g i) : va n f = va n g :=
  va_ext (va_size n f) fun i hi => by rw [va_at f hi, h i hi]
theorem va_toList (n : Nat) (f : Nat → Value) : (va n f).toList = (List.range n).map f := by simp [va]
theorem va_one {n : Nat} {f : Nat → Value} (h : ∀ i, i < n → (f i).oneCell' = true) : (va n f).all (·.oneCell') = true := by
  refine all_oneCell_toArray fun v hv => ?_
  obtain ⟨i, hi, rfl⟩ := List.mem_map.1 hv
  exact h i (List.mem_range.1 hi)
def iv (k : IntKind) (f : Nat → Nat) : Nat → Value := fun i => .int k (f i : Int)
theorem iv_one (k : IntKind) (f : Nat → Nat) (n : Nat) : (va n (iv k f)).all (·.oneCell') = true := va_one fun _ _ => rfl
def updN (f : Nat → Nat) (i v : Nat) : Nat → Nat := fun j => if j = i then v else f j
/-- a run of values laid over the places from o on -/
def over (f : Nat → Value) (o : Nat) (vs : List Value) : Nat → Value := fun i => if o ≤ i ∧ i < o + vs.length then vs.getD (i - o) undef else f i
theorem Blk.range {w : World} {g t n : Nat} {f : Nat → Value} (h : Blk w g t (va n f)) (o m : Nat) (hm : o + m ≤ n) : w.rangeAt g o ((List.range m).map fun j => f (o + j)) := fun j v hv => by
  rw [h.cell]
  have hj : j < m := by
    have := (List.getElem?_eq_some_iff.1 hv).1
    simpa using this
  rw [va_at f (by omega)]
  simpa [hj] using hv
theorem Blk.frozen {w : World} {g t : Nat} {cs : Array Value} (h : Blk w g t cs) (i : Nat) : w.frozen? ⟨g, i, none⟩ = false := by
  have := h; unfold Blk at this; simp [World.frozen?, this]
theorem Blk.cv {w : World} {g t n : Nat} {f : Nat → Value} (h : Blk w g t (va n f)) {i : Nat} (hi : i < n) : w.cell? ⟨g, i, none⟩ = some (f i) := by rw [h.cell, va_at f hi]
end Go.Proofs.YtjlngldmdfbbaaaDoor

namespace Go.Proofs.YtjlngldmdfbbaaaDoor
open Go Go.RowKit
set_option linter.unusedVariables false

/-- the bit of a place, of words of 64 -/
def bitF (W : Nat → Nat) (p : Nat) : Bool := (W (p / 64)).testBit (p % 64)
def notN (b : Nat) : Nat := 18446744073709551615 - b
theorem notN_bit (b j : Nat) (hb : b < 18446744073709551616) (hj : j < 64) : (notN b).testBit j = !b.testBit j := by
  have e : notN b = 2 ^ 64 - (b + 1) := by unfold notN; omega
  rw [e, Nat.testBit_two_pow_sub_succ (by omega)]
  simp [hj]
theorem and_lt64 (a b : Nat) (ha : a < 18446744073709551616) : a &&& b < 18446744073709551616 := Nat.lt_of_le_of_lt Nat.and_le_left ha
theorem or_lt64 (a b : Nat) (ha : a < 18446744073709551616) (hb : b < 18446744073709551616) : a ||| b < 18446744073709551616 := Nat.or_lt_two_pow (n := 64) (by omega) (by omega)
theorem xor_lt64 (a b : Nat) (ha : a < 18446744073709551616) (hb : b < 18446744073709551616) : a ^^^ b < 18446744073709551616 := Nat.xor_lt_two_pow (n := 64) (by omega) (by omega)
theorem word_ext {a b : Nat} (ha : a < 18446744073709551616) (hb : b < 18446744073709551616) (h : ∀ j, j < 64 → a.testBit j = b.testBit j) : a = b := by
  apply Nat.eq_of_testBit_eq
  intro j
  by_cases hj : j < 64
  · exact h j hj
  · rw [lt64_bit a j ha (by omega), lt64_bit b j hb (by omega)]
theorem bitF_at (W : Nat → Nat) (i j : Nat) (hj : j < 64) : bitF W (64 * i + j) = (W i).testBit j := by
  unfold bitF
  rw [show (64 * i + j) / 64 = i from by omega, show (64 * i + j) % 64 = j from by omega]
/-- one bit made 1, made 0 -/
def putW (W : Nat → Nat) (p : Nat) : Nat → Nat := updN W (p / 64) (W (p / 64) ||| 2 ^ (p % 64))
def clrW (W : Nat → Nat) (p : Nat) : Nat → Nat := updN W (p / 64) (W (p / 64) &&& notN (2 ^ (p % 64)))
theorem bitF_put (W : Nat → Nat) (p q : Nat) : bitF (putW W p) q = (decide (q = p) || bitF W q) := by
  unfold bitF putW updN
  by_cases h : q / 64 = p / 64
  · rw [if_pos h, Nat.testBit_or, Nat.testBit_two_pow, h]
    by_cases h2 : q = p
    · subst h2; simp
    · have : ¬ p % 64 = q % 64 := by omega
      simp [h2, this]
  · rw [if_neg h]
    have : ¬ q = p := fun e => h (by rw [e])
    simp [this]
theorem bitF_clr (W : Nat → Nat) (p q : Nat) : bitF (clrW W p) q = (!decide (q = p) && bitF W q) := by
  unfold bitF clrW updN
  by_cases h : q / 64 = p / 64
  · rw [if_pos h, Nat.testBit_and, notN_bit _ _ (pow_lt_u64 _ (by omega)) (by omega), Nat.testBit_two_pow, h]
    by_cases h2 : q = p
    · subst h2; simp
    · have : ¬ p % 64 = q % 64 := by omega
      simp [h2, this]
  · rw [if_neg h]
    have : ¬ q = p := fun e => h (by rw [e])
    simp [this]
theorem putW_lt {W : Nat → Nat} (h : ∀ i, W i < 18446744073709551616) (p : Nat) : ∀ i, putW W p i < 18446744073709551616 := fun i => by
  unfold putW updN
  split
  · exact or_lt64 _ _ (h _) (pow_lt_u64 _ (by omega))
  · exact h i
theorem clrW_lt {W : Nat → Nat} (h : ∀ i, W i < 18446744073709551616) (p : Nat) : ∀ i, clrW W p i < 18446744073709551616 := fun i => by
  unfold clrW updN
  split
  · exact and_lt64 _ _ (h _)
  · exact h i
/-- whether a bit is one, as the program asks -/
theorem and_pow_ne (x k : Nat) : (((x &&& 2 ^ k : Nat) : Int) == 0) = !x.testBit k := by
  have e : x &&& 2 ^ k = if x.testBit k then 2 ^ k else 0 := by
    apply Nat.eq_of_testBit_eq
    intro j
    rw [Nat.testBit_and, Nat.testBit_two_pow]
    by_cases h : k = j
    · subst h
      cases hb : x.testBit k <;> simp
    · cases hb : x.testBit k <;> simp [h]
  rw [e]
  cases hb : x.testBit k
  · simp
  · simp only [if_true, Bool.not_true, beq_eq_false_iff_ne]
    have := Nat.two_pow_pos k
    omega
/-- two tables of words that hold the same bits -/
theorem words_ext {V W : Nat → Nat} (hV : ∀ i, V i < 18446744073709551616) (hW : ∀ i, W i < 18446744073709551616) (h : ∀ p, bitF V p = bitF W p) (i : Nat) : V i = W i :=
  word_ext (hV i) (hW i) fun j hj => by rw [← bitF_at V i j hj, ← bitF_at W i j hj, h]

/-- how many of the first places are one -/
def cntF (F : Nat → Bool) : Nat → Nat
  | 0 => 0
  | n + 1 => cntF F n + if F n then 1 else 0
theorem cntF_le (F : Nat → Bool) (n : Nat) : cntF F n ≤ n := by
  induction n with
  | zero => simp [cntF]
  | succ n ih => unfold cntF; split <;> omega
theorem cntF_congr {F G : Nat → Bool} {n : Nat} (h : ∀ p, p < n → F p = G p) : cntF F n = cntF G n := by
  induction n with
  | zero => rfl
  | succ n ih => unfold cntF; rw [ih fun p hp => h p (by omega), h n (by omega)]
theorem cntF_add (F : Nat → Bool) (a : Nat) : ∀ b, cntF F (a + b) = cntF F a + cntF (fun j => F (a + j)) b
  | 0 => by simp [cntF]
  | b + 1 => by
    show cntF F (a + b) + (if F (a + b) then 1 else 0) = cntF F a + (cntF (fun j => F (a + j)) b + if F (a + b) then 1 else 0)
    rw [cntF_add F a b]
    omega
theorem cntF_none (F : Nat → Bool) (n : Nat) (h : ∀ p, p < n → F p = false) : cntF F n = 0 := by
  induction n with
  | zero => rfl
  | succ n ih => unfold cntF; rw [ih fun p hp => h p (by omega), h n (by omega)]; rfl
theorem cntF_tail (F : Nat → Bool) (a b : Nat) (hab : a ≤ b) (h : ∀ p, a ≤ p → F p = false) : cntF F b = cntF F a := by
  obtain ⟨d, rfl⟩ := Nat.exists_eq_add_of_le hab
  rw [cntF_add, cntF_none (fun j => F (a + j)) d fun p _ => h _ (by omega)]
  rfl
theorem onesTo_cnt (x : Nat) : ∀ k, onesTo x k = cntF (fun j => x.testBit j) k
  | 0 => rfl
  | k + 1 => by
    unfold onesTo cntF
    rw [onesTo_cnt x k]
def sumW (W : Nat → Nat) : Nat → Nat
  | 0 => 0
  | i + 1 => sumW W i + onesTo (W i) 64
theorem sumW_cnt (W : Nat → Nat) : ∀ i, sumW W i = cntF (bitF W) (64 * i)
  | 0 => rfl
  | i + 1 => by
    unfold sumW
    rw [sumW_cnt W i, Nat.mul_add, Nat.mul_one, cntF_add, onesTo_cnt]
    congr 1
    exact cntF_congr fun j hj => (bitF_at W i j hj).symm

/-- the least place from a on, below n, that is this -/
structure NextIs (F : Nat → Bool) (is : Bool) (n a : Nat) (r : Int) : Prop where
  none : r = -1 → ∀ p, a ≤ p → p < n → F p = !is
  some : r ≠ -1 → ∃ p : Nat, r = (p : Int) ∧ a ≤ p ∧ p < n ∧ F p = is ∧ ∀ q, a ≤ q → q < p → F q = !is
theorem NextIs.uniq {F : Nat → Bool} {is : Bool} {n a : Nat} {r s : Int} (h : NextIs F is n a r) (k : NextIs F is n a s) : r = s := by
  have flip : ∀ b : Bool, b = is → b = !is → False := fun b h1 h2 => by rw [h1] at h2; cases is <;> exact absurd h2 (by decide)
  by_cases hr : r = -1
  · by_cases hs : s = -1
    · rw [hr, hs]
    · obtain ⟨p, e, h1, h2, h3, h4⟩ := k.some hs
      exact absurd (h.none hr p h1 h2) (fun q => flip _ h3 q)
  · obtain ⟨p, e, h1, h2, h3, h4⟩ := h.some hr
    by_cases hs : s = -1
    · exact absurd (k.none hs p h1 h2) (fun q => flip _ h3 q)
    · obtain ⟨p', e', h1', h2', h3', h4'⟩ := k.some hs
      rcases Nat.lt_trichotomy p p' with hl | rfl | hl
      · exact absurd (h4' p h1 hl) (fun q => flip _ h3 q)
      · rw [e, e']
      · exact absurd (h4 p' h1' hl) (fun q => flip _ h3' q)
def nextZ (F : Nat → Bool) (is : Bool) (a : Nat) : Nat → Int
  | 0 => -1
  | m + 1 => if F a = is then (a : Int) else nextZ F is (a + 1) m
theorem nextZ_is (F : Nat → Bool) (is : Bool) : ∀ (m a : Nat), NextIs F is (a + m) a (nextZ F is a m)
  | 0, a => ⟨fun _ p h1 h2 => by omega, fun h => absurd rfl h⟩
  | m + 1, a => by
    have ih := nextZ_is F is m (a + 1)
    rw [show a + 1 + m = a + (m + 1) from by omega] at ih
    unfold nextZ
    by_cases h : F a = is
    · rw [if_pos h]
      exact ⟨fun e => by omega, fun _ => ⟨a, rfl, Nat.le_refl _, by omega, h, fun q h1 h2 => by omega⟩⟩
    · rw [if_neg h]
      have hn : F a = !is := by
        cases h1 : F a <;> cases is <;> first | rfl | exact absurd h1 h
      refine ⟨fun e p h1 h2 => ?_, fun e => ?_⟩
      · by_cases hp : p = a
        · rw [hp]; exact hn
        · exact ih.none e p (by omega) h2
      · obtain ⟨p, e1, h1, h2, h3, h4⟩ := ih.some e
        refine ⟨p, e1, by omega, h2, h3, fun q q1 q2 => ?_⟩
        by_cases hq : q = a
        · rw [hq]; exact hn
        · exact h4 q (by omega) q2
/-- the same, of a map of n places -/
def nxt (F : Nat → Bool) (is : Bool) (n a : Nat) : Int := nextZ F is a (n - a)
theorem nxt_is (F : Nat → Bool) (is : Bool) (n a : Nat) : NextIs F is n a (nxt F is n a) := by
  by_cases h : a ≤ n
  · have := nextZ_is F is (n - a) a
    rw [show a + (n - a) = n from by omega] at this
    exact this
  · refine ⟨fun _ p h1 h2 => by omega, fun e => absurd ?_ e⟩
    unfold nxt
    rw [show n - a = 0 from by omega]
    rfl
theorem nxt_eq {F : Nat → Bool} {is : Bool} {n a : Nat} {r : Int} (h : NextIs F is n a r) : r = nxt F is n a := h.uniq (nxt_is F is n a)
theorem nxt_range (F : Nat → Bool) (is : Bool) (n a : Nat) : -1 ≤ nxt F is n a ∧ nxt F is n a < n ∨ nxt F is n a = -1 := by
  by_cases e : nxt F is n a = -1
  · exact .inr e
  · obtain ⟨p, e1, h1, h2, h3, h4⟩ := (nxt_is F is n a).some e
    exact .inl (by omega)
theorem nxt_congr {F G : Nat → Bool} {n : Nat} (h : ∀ p, p < n → F p = G p) (is : Bool) (a : Nat) : nxt F is n a = nxt G is n a := by
  refine nxt_eq ⟨fun e p h1 h2 => ?_, fun e => ?_⟩
  · rw [← h p h2]; exact (nxt_is F is n a).none e p h1 h2
  · obtain ⟨p, e1, h1, h2, h3, h4⟩ := (nxt_is F is n a).some e
    exact ⟨p, e1, h1, h2, (h p h2).symm.trans h3, fun q q1 q2 => (h q (by omega)).symm.trans (h4 q q1 q2)⟩

/-- stretches of ones among the first places, as the document's answer grows them -/
def runStep (l : List (Nat × Nat)) (i : Nat) : List (Nat × Nat) :=
  match l.getLast? with
  | some (a, b) => if b + 1 = i then l.dropLast ++ [(a, i)] else l ++ [(i, i)]
  | none => l ++ [(i, i)]
def runsL (F : Nat → Bool) : Nat → List (Nat × Nat)
  | 0 => []
  | i + 1 => if F i then runStep (runsL F i) i else runsL F i
theorem runsL_congr {F G : Nat → Bool} {n : Nat} (h : ∀ p, p < n → F p = G p) : runsL F n = runsL G n := by
  induction n with
  | zero => rfl
  | succ n ih => unfold runsL; rw [ih fun p hp => h p (by omega), h n (by omega)]
theorem runsL_len (F : Nat → Bool) (n : Nat) : (runsL F n).length ≤ n := by
  induction n with
  | zero => simp [runsL]
  | succ n ih =>
    unfold runsL
    split
    · unfold runStep
      split
      · split
        · simp; omega
        · simp; omega
      · simp; omega
    · omega
/-- each stretch ends at a one that is below -/
theorem runsL_to (F : Nat → Bool) (n : Nat) : ∀ r ∈ runsL F n, F r.2 = true ∧ r.2 < n ∧ r.1 ≤ r.2 := by
  induction n with
  | zero => intro r hr; simp [runsL] at hr
  | succ n ih =>
    intro r hr
    unfold runsL at hr
    split at hr
    · rename_i hF
      unfold runStep at hr
      split at hr
      · rename_i a b hl
        have hm := List.mem_of_getLast? hl
        split at hr
        · rcases List.mem_append.1 hr with h | h
          · have := ih r (List.dropLast_subset _ h)
            exact ⟨this.1, by omega, this.2.2⟩
          · simp only [List.mem_singleton] at h
            subst h
            have := ih _ hm
            exact ⟨hF, by simp, by simp at this ⊢; omega⟩
        · rcases List.mem_append.1 hr with h | h
          · have := ih r h
            exact ⟨this.1, by omega, this.2.2⟩
          · simp only [List.mem_singleton] at h
            subst h
            exact ⟨hF, by simp, Nat.le_refl _⟩
      · rcases List.mem_append.1 hr with h | h
        · have := ih r h
          exact ⟨this.1, by omega, this.2.2⟩
        · simp only [List.mem_singleton] at h
          subst h
          exact ⟨hF, by simp, Nat.le_refl _⟩
    · have := ih r hr
      exact ⟨this.1, by omega, this.2.2⟩
theorem runsL_gap (F : Nat → Bool) (a : Nat) : ∀ d, (∀ p, a ≤ p → p < a + d → F p = false) → runsL F (a + d) = runsL F a
  | 0, _ => rfl
  | d + 1, h => by
    rw [show runsL F (a + (d + 1)) = if F (a + d) then runStep (runsL F (a + d)) (a + d) else runsL F (a + d) from rfl, h (a + d) (by omega) (by omega)]
    simp only [Bool.false_eq_true, if_false]
    exact runsL_gap F a d fun p h1 h2 => h p h1 (by omega)
theorem runsL_run (F : Nat → Bool) (a : Nat) (h0 : a = 0 ∨ F (a - 1) = false) : ∀ d, (∀ p, a ≤ p → p < a + (d + 1) → F p = true) → runsL F (a + (d + 1)) = runsL F a ++ [(a, a + d)]
  | 0, h => by
    show runsL F (a + 1) = _
    have hstep : runStep (runsL F a) a = runsL F a ++ [(a, a)] := by
      unfold runStep
      split
      · rename_i x y hl
        have hm := runsL_to F a _ (List.mem_of_getLast? hl)
        rw [if_neg ?_]
        intro e
        rcases h0 with rfl | h0
        · simp at hm
        · simp only at hm
          rw [← e] at h0
          simp only [Nat.add_sub_cancel] at h0
          rw [h0] at hm
          exact absurd hm.1 (by simp)
      · rfl
    rw [show runsL F (a + 1) = if F a then runStep (runsL F a) a else runsL F a from rfl, h a (Nat.le_refl _) (by omega), if_pos rfl, hstep, Nat.add_zero]
  | d + 1, h => by
    have ih := runsL_run F a h0 d fun p h1 h2 => h p h1 (by omega)
    rw [show runsL F (a + (d + 1 + 1)) = if F (a + (d + 1)) then runStep (runsL F (a + (d + 1))) (a + (d + 1)) else runsL F (a + (d + 1)) from rfl, h (a + (d + 1)) (by omega) (by omega), if_pos rfl, ih]
    unfold runStep
    simp [Nat.add_assoc]
end Go.Proofs.YtjlngldmdfbbaaaDoor

namespace Go.Proofs.YtjlngldmdfbbaaaDoor

theorem and64 (a b : Nat) (c : Int) (hc : c = b) (ha : a < 18446744073709551616) (hb : b < 18446744073709551616) : bits .and .u64 (a : Int) c = ((a &&& b : Nat) : Int) := by
  subst hc; exact u64_and_nat a b ha hb

theorem pop_facts (x : Nat) (hx : x < 18446744073709551616) : ∃ y1 y2 ys y3 z1 z2 z3 : Nat,
    IntKind.u64.wrap (bits .and .u64 ((x : Int) / 2) 6148914691236517205 + bits .and .u64 (x : Int) 6148914691236517205) = (y1 : Int) ∧
    IntKind.u64.wrap (bits .and .u64 ((y1 : Int) / 4) 3689348814741910323 + bits .and .u64 (y1 : Int) 3689348814741910323) = (y2 : Int) ∧
    IntKind.u64.wrap ((y2 : Int) / 16 + (y2 : Int)) = (ys : Int) ∧ bits .and .u64 (ys : Int) 1085102592571150095 = (y3 : Int) ∧
    IntKind.u64.wrap ((y3 : Int) + (y3 : Int) / 256) = (z1 : Int) ∧ IntKind.u64.wrap ((z1 : Int) + (z1 : Int) / 65536) = (z2 : Int) ∧ IntKind.u64.wrap ((z2 : Int) + (z2 : Int) / 4294967296) = (z3 : Int) ∧
    z3 < 9223372036854775808 ∧ z3 % 128 = onesTo x 64 := by
  have hl : (bytesOf x).length = 8 := rfl
  have hlt := bytesOf_lt x
  have ok := fun b (hb : b ∈ bytesOf x) => bytes_ok ⟨b, hlt b hb⟩
  have s1 := step1 x hx
  have s2 := step2 ((bytesOf x).map f1) (by simp [hl]) (fun c hc => by
    obtain ⟨b, hb, rfl⟩ := List.mem_map.1 hc
    exact (ok b hb).1)
  have s3 := step3 (((bytesOf x).map f1).map f2) (by simp [hl]) (fun c hc => by
    obtain ⟨b', hb', rfl⟩ := List.mem_map.1 hc
    obtain ⟨b, hb, rfl⟩ := List.mem_map.1 hb'
    exact ⟨(ok b hb).2.1, (ok b hb).2.2.1⟩)
  have e3 : (((bytesOf x).map f1).map f2).map f3 = (bytesOf x).map fun b => onesTo b 8 := by
    rw [List.map_map, List.map_map]
    exact List.map_congr_left fun b hb => (ok b hb).2.2.2
  rw [e3] at s3
  have o := onesTo_val (bytesOf x) hlt
  rw [val_bytesOf x hx, hl] at o
  have b1 : (x / 2 &&& 6148914691236517205) ≤ 6148914691236517205 := Nat.and_le_right
  have b2 : (x &&& 6148914691236517205) ≤ 6148914691236517205 := Nat.and_le_right
  generalize hy1 : val ((bytesOf x).map f1) = y1 at *
  have c1 : (y1 / 4 &&& 3689348814741910323) ≤ 3689348814741910323 := Nat.and_le_right
  have c2 : (y1 &&& 3689348814741910323) ≤ 3689348814741910323 := Nat.and_le_right
  generalize hy2 : val (((bytesOf x).map f1).map f2) = y2 at *
  have l1 : y1 < 18446744073709551616 := by omega
  have l2 : y2 ≤ 7378697629483820646 := by omega
  obtain ⟨g0, g1, g2, g3, g4⟩ := fold8 (onesTo (x % 256) 8) (onesTo (x / 256 % 256) 8) (onesTo (x / 65536 % 256) 8) (onesTo (x / 16777216 % 256) 8) (onesTo (x / 4294967296 % 256) 8) (onesTo (x / 1099511627776 % 256) 8) (onesTo (x / 281474976710656 % 256) 8) (onesTo (x / 72057594037927936 % 256) 8)
    (onesTo_le _ 8) (onesTo_le _ 8) (onesTo_le _ 8) (onesTo_le _ 8) (onesTo_le _ 8) (onesTo_le _ 8) (onesTo_le _ 8) (onesTo_le _ 8) _ _ _ _ rfl rfl rfl rfl
  have hv : val ((bytesOf x).map fun b => onesTo b 8) = val [onesTo (x % 256) 8, onesTo (x / 256 % 256) 8, onesTo (x / 65536 % 256) 8, onesTo (x / 16777216 % 256) 8, onesTo (x / 4294967296 % 256) 8, onesTo (x / 1099511627776 % 256) 8, onesTo (x / 281474976710656 % 256) 8, onesTo (x / 72057594037927936 % 256) 8] := rfl
  have hsum : sum ((bytesOf x).map fun b => onesTo b 8) = onesTo (x % 256) 8 + onesTo (x / 256 % 256) 8 + onesTo (x / 65536 % 256) 8 + onesTo (x / 16777216 % 256) 8 + onesTo (x / 4294967296 % 256) 8 + onesTo (x / 1099511627776 % 256) 8 + onesTo (x / 281474976710656 % 256) 8 + onesTo (x / 72057594037927936 % 256) 8 := by
    simp only [bytesOf, List.map_cons, List.map_nil, sum]; omega
  rw [hsum] at o
  rw [hv] at s3
  clear hv hsum ok hlt e3
  generalize val [onesTo (x % 256) 8, onesTo (x / 256 % 256) 8, onesTo (x / 65536 % 256) 8, onesTo (x / 16777216 % 256) 8, onesTo (x / 4294967296 % 256) 8, onesTo (x / 1099511627776 % 256) 8, onesTo (x / 281474976710656 % 256) 8, onesTo (x / 72057594037927936 % 256) 8] = y3 at *
  refine ⟨y1, y2, y2 / 16 + y2, y3, y3 + y3 / 256, y3 + y3 / 256 + (y3 + y3 / 256) / 65536, _, ?_, ?_, ?_, ?_, ?_, ?_, ?_, g3, g4.trans o.symm⟩
  · have d : ((x : Int) / 2) = ((x / 2 : Nat) : Int) := by simp
    rw [d, and64 (x / 2) 6148914691236517205 6148914691236517205 rfl (by omega) (by decide), and64 x 6148914691236517205 6148914691236517205 rfl hx (by decide), IntKind.wrap_u64]; omega
  · have d : ((y1 : Int) / 4) = ((y1 / 4 : Nat) : Int) := by simp
    rw [d, and64 (y1 / 4) 3689348814741910323 3689348814741910323 rfl (by omega) (by decide), and64 y1 3689348814741910323 3689348814741910323 rfl l1 (by decide), IntKind.wrap_u64]; omega
  · rw [IntKind.wrap_u64]; omega
  · rw [and64 _ 1085102592571150095 1085102592571150095 rfl (by omega) (by decide), s3]
  · rw [IntKind.wrap_u64]; omega
  · rw [IntKind.wrap_u64]; omega
  · rw [IntKind.wrap_u64]; omega

theorem and127 (z : Nat) (hz : z < 9223372036854775808) : bits .and .i64 (z : Int) 127 = ((z % 128 : Nat) : Int) := by
  have h1 : (BitVec.ofInt 64 (z : Int)).toNat = z := by
    rw [BitVec.ofInt_natCast, BitVec.toNat_ofNat]; exact Nat.mod_eq_of_lt (by omega)
  have h2 : (BitVec.ofInt 64 (127 : Int)).toNat = 127 := by decide
  show IntKind.i64.wrap ((BitVec.ofInt 64 (z : Int) &&& BitVec.ofInt 64 (127 : Int)).toNat : Int) = _
  rw [BitVec.toNat_and, h1, h2, Nat.and_two_pow_sub_one_eq_mod z 7]
  exact wrapI64_id _ (by omega) (by omega)

/-- the lowest one -/
theorem low_at (x : Nat) (hx : x < 18446744073709551616) (h0 : x ≠ 0) : x.testBit (Lib.ctz 64 x) = true ∧ (∀ j, j < Lib.ctz 64 x → x.testBit j = false) ∧ Lib.ctz 64 x < 64 := by
  have e : Lib.ctz 64 x = Lib.ctzFrom 64 x := by simp [Lib.ctz, h0]
  obtain ⟨m, hm, hk⟩ := Lib.ctzFrom_spec 64 x (by omega) hx
  rw [e]
  generalize Lib.ctzFrom 64 x = k at *
  refine ⟨?_, ?_, hk⟩
  · rw [hm, Nat.mul_comm, Nat.testBit_mul_two_pow]; simp [Nat.testBit_zero]
  · intro j hj
    rw [hm, Nat.mul_comm, Nat.testBit_mul_two_pow]; simp; intro; omega

end Go.Proofs.YtjlngldmdfbbaaaDoor

namespace Go.Proofs.YtjlngldmdfbbaaaDoor
open Go.RowKit
set_option linter.unusedVariables false

theorem w64 (a : Int) : wrap64 a = IntKind.i64.wrap a := (IntWalk.i64_left a).symm

theorem onesCount_core (x y1 y2 ys y3 z1 z2 z3 r : Nat)
    (r1 : IntKind.u64.wrap (bits .and .u64 ((x : Int) / 2) 6148914691236517205 + bits .and .u64 (x : Int) 6148914691236517205) = (y1 : Int))
    (r2 : IntKind.u64.wrap (bits .and .u64 ((y1 : Int) / 4) 3689348814741910323 + bits .and .u64 (y1 : Int) 3689348814741910323) = (y2 : Int))
    (r3 : IntKind.u64.wrap ((y2 : Int) / 16 + (y2 : Int)) = (ys : Int)) (r4 : bits .and .u64 (ys : Int) 1085102592571150095 = (y3 : Int))
    (r5 : IntKind.u64.wrap ((y3 : Int) + (y3 : Int) / 256) = (z1 : Int)) (r6 : IntKind.u64.wrap ((z1 : Int) + (z1 : Int) / 65536) = (z2 : Int)) (r7 : IntKind.u64.wrap ((z2 : Int) + (z2 : Int) / 4294967296) = (z3 : Int))
    (r8 : wrap64 (z3 : Int) = (z3 : Int)) (r9 : bits .and .i64 (z3 : Int) 127 = (r : Int)) (w : World) :
    Calls Tryd.prog 65 #[.int .u64 (x : Int)] w fun e w' => e = .returned (.int .i64 (r : Int)) ∧ w' = w := by
  go_enter Tryd.func65, Tryd.ntmps65
  go_wp2
  go_ret
  exact ⟨rfl, rfl⟩

theorem ones_any (x : Nat) (hx : x < 18446744073709551616) (w : World) :
    Calls Tryd.prog 57 #[.int .u64 (x : Int)] w fun e w' => e = .returned (.int .i64 (onesTo x 64 : Int)) ∧ w' = w := by
  obtain ⟨y1, y2, ys, y3, z1, z2, z3, r1, r2, r3, r4, r5, r6, r7, l, o⟩ := pop_facts x hx
  have c := onesCount_core x y1 y2 ys y3 z1 z2 z3 (onesTo x 64) r1 r2 r3 r4 r5 r6 r7 (by rw [w64]; exact wrapI64_id _ (by omega) (by omega)) (by rw [and127 z3 l, o])
  clear r1 r2 r3 r4 r5 r6 r7 l o
  have C : Hid (∀ w : World, Calls Tryd.prog 65 #[.int .u64 (x : Int)] w fun e w' => e = .returned (.int .i64 (onesTo x 64 : Int)) ∧ w' = w) := c
  clear c
  go_enter Tryd.func57, Tryd.ntmps57
  go_wp2_with fail
  refine (C.out _).mono ?_
  rintro e w' ⟨rfl, rfl⟩
  go_wp2
  go_ret
  exact ⟨rfl, rfl⟩

end Go.Proofs.YtjlngldmdfbbaaaDoor

namespace Go.Proofs.YtjlngldmdfbbaaaDoor
open Go.RowKit

theorem ret_int {k : IntKind} {a b : Int} (h : a = b) : Ending.returned (.int k a) = .returned (.int k b) := by rw [h]

theorem ret_int2 {k : IntKind} {a b : Int} {v : Value} (h : a = b) : Ending.returned (.tuple #[.int k a, v]) = .returned (.tuple #[.int k b, v]) := by rw [h]

end Go.Proofs.YtjlngldmdfbbaaaDoor

namespace Go.Proofs.YtjlngldmdfbbaaaDoor
open Go Go.RowKit

/-- F, and from place a on m places of G -/
def overF (F : Nat → Value) (a m : Nat) (G : Nat → Value) : Nat → Value := fun i => if a ≤ i ∧ i < a + m then G (i - a) else F i
theorem splice_range (n a m : Nat) (F G : Nat → Value) (h : a + m ≤ n) :
    splice ((List.range n).map F) a ((List.range m).map G) = (List.range n).map (overF F a m G) := by
  apply List.ext_getElem?
  intro i
  unfold splice
  have l1 : (((List.range n).map F).take a).length = a := by simp; omega
  have l2 : ((List.range m).map G).length = m := by simp
  by_cases h1 : i < a
  · rw [List.getElem?_append_left (by omega), List.getElem?_take_of_lt h1]
    have : overF F a m G i = F i := if_neg (by omega)
    simp [show i < n by omega, this]
  · rw [List.getElem?_append_right (by omega), l1]
    by_cases h2 : i < a + m
    · rw [List.getElem?_append_left (by omega)]
      have : overF F a m G i = G (i - a) := if_pos (by omega)
      simp [show i < n by omega, show i - a < m by omega, this]
    · rw [List.getElem?_append_right (by omega), List.getElem?_drop, l2, show a + m + (i - a - m) = i from by omega]
      have : overF F a m G i = F i := if_neg (by omega)
      by_cases h3 : i < n
      · simp [h3, this]
      · simp [h3]
theorem splice_va (n a m : Nat) (F G : Nat → Value) (h : a + m ≤ n) : (splice ((List.range n).map F) a ((List.range m).map G)).toArray = va n (overF F a m G) := by
  rw [splice_range n a m F G h]; rfl
theorem mem_iv_one (κ : IntKind) (m : Nat) (f : Nat → Nat) : ∀ v ∈ (List.range m).map (fun j => Value.int κ ((f j : Nat) : Int)), v.oneCell' = true := fun v hv => by
  obtain ⟨j, _, rfl⟩ := List.mem_map.1 hv
  rfl
end Go.Proofs.YtjlngldmdfbbaaaDoor

namespace Go.Proofs.YtjlngldmdfbbaaaDoor
open Go Go.RowKit

theorem run_items {P : Program} {w : World} {e : TypeId} {k : IntKind} (d : Nat) (he : P.underlying e = some (.int k)) (f g : Nat → Int) (xs ys : Array Value) :
    ∀ is : List Nat, (∀ i ∈ is, xs[i]? = some (.int k (f i)) ∧ ys[i]? = some (.int k (g i))) → (Op.eqItems (d + 1) e 1 xs ys is).run P w = .ok (is.all fun i => f i == g i) w
  | [], _ => by simp [Op.eqItems]
  | i :: is, h => by
    obtain ⟨h1, h2⟩ := h i (by simp)
    have ih := run_items (w := w) d he f g xs ys is fun j hj => h j (by simp [hj])
    have p1 : (part e xs (i * 1)).run P w = .ok (.int k (f i)) w := by
      simp [part, isAgg, run_underlying he, h1]
    have p2 : (part e ys (i * 1)).run P w = .ok (.int k (g i)) w := by
      simp [part, isAgg, run_underlying he, h2]
    have p3 : (Op.equalIn (d + 1) e (.int k (f i)) (.int k (g i))).run P w = .ok (f i == g i) w := by
      simp [Op.equalIn, run_underlying he]
    simp only [Op.eqItems, Sem.run_bind, p1, p2, p3, Result.andThen_ok]
    by_cases hq : f i = g i
    · simp only [hq, beq_self_eq_true, Bool.not_true, Bool.false_eq_true, if_false, ih, List.all_cons, Bool.true_and]
    · have : (f i == g i) = false := by simpa using hq
      simp only [this, Bool.not_false, if_true, Sem.run_pure, List.all_cons, Bool.false_and]

end Go.Proofs.YtjlngldmdfbbaaaDoor
