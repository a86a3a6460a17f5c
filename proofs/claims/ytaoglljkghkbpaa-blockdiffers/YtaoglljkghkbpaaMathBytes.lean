/- Plain facts on numbers in bytes, the lowest first; no program in them. No conditions beyond those that each states. -/
import Derived.Test.YtaoglljkghkbpaaMath
import Derived.Laws.BytesArg
namespace Go.Proofs.Ytaoglljkghkbpaa

/-- the first k bytes of a number, the lowest first -/
def digs (n k : Nat) : List Int := (List.range k).map fun i => ((n / 256 ^ i % 256 : Nat) : Int)
theorem digs_length (n k : Nat) : (digs n k).length = k := by simp [digs]
theorem digs_succ (n k : Nat) : digs n (k + 1) = digs n k ++ [((n / 256 ^ k % 256 : Nat) : Int)] := by simp [digs, List.range_succ]
theorem digs2 (n : Nat) : digs n 2 = [((n % 256 : Nat) : Int), ((n / 256 % 256 : Nat) : Int)] := by simp [digs, List.range_succ]
theorem digs4 (n : Nat) : digs n 4 = [((n % 256 : Nat) : Int), ((n / 256 % 256 : Nat) : Int), ((n / 65536 % 256 : Nat) : Int), ((n / 16777216 % 256 : Nat) : Int)] := by simp [digs, List.range_succ]
theorem digs8 (n : Nat) : digs n 8 = [((n % 256 : Nat) : Int), ((n / 256 % 256 : Nat) : Int), ((n / 65536 % 256 : Nat) : Int), ((n / 16777216 % 256 : Nat) : Int),
    ((n / 4294967296 % 256 : Nat) : Int), ((n / 1099511627776 % 256 : Nat) : Int), ((n / 281474976710656 % 256 : Nat) : Int), ((n / 72057594037927936 % 256 : Nat) : Int)] := by simp [digs, List.range_succ]

theorem or_join (m a p i : Nat) (hp : p = 2 ^ i) (hm : m < p) : m ||| a * p = m + a * p := by
  subst hp
  rw [Nat.or_comm, nat_join i (a * 2 ^ i) m (Nat.mul_mod_left _ _) hm, Nat.add_comm]
theorem or64_at (m a p i : Nat) (hp : p = 2 ^ i) (hm : m < p) (h : m + a * p < 18446744073709551616) :
    bits .or .u64 (m : Int) ((a : Int) * (p : Int)) = ((m + a * p : Nat) : Int) := by
  rw [← Int.natCast_mul, u64_or_nat m (a * p) (by omega) (by omega), or_join m a p i hp hm]
theorem or32_at (m a p i : Nat) (hp : p = 2 ^ i) (hm : m < p) (h : m + a * p < 4294967296) :
    bits .or .u32 (m : Int) ((a : Int) * (p : Int)) = ((m + a * p : Nat) : Int) := by
  rw [← Int.natCast_mul, u32_or_nat m (a * p) (by omega) (by omega), or_join m a p i hp hm]
theorem or16_at (m a p i : Nat) (hp : p = 2 ^ i) (hm : m < p) (h : m + a * p < 65536) :
    bits .or .u16 (m : Int) ((a : Int) * (p : Int)) = ((m + a * p : Nat) : Int) := by
  rw [← Int.natCast_mul, u16_or_nat m (a * p) (by omega) (by omega), or_join m a p i hp hm]

def le2 (a0 a1 : Nat) : Nat := a0 + a1 * 256
def le4 (a0 a1 a2 a3 : Nat) : Nat := a0 + a1 * 256 + a2 * 65536 + a3 * 16777216
def le8 (a0 a1 a2 a3 a4 a5 a6 a7 : Nat) : Nat := a0 + a1 * 256 + a2 * 65536 + a3 * 16777216 + a4 * 4294967296 + a5 * 1099511627776 + a6 * 281474976710656 + a7 * 72057594037927936

theorem of2_val (a0 a1 : Nat) (h0 : a0 < 256) (h1 : a1 < 256) :
    bits .or .u16 (bits .or .u16 0 (a0 : Int)) ((a1 : Int) * 256) = (le2 a0 a1 : Int) := by
  have e0 := u16_or_nat 0 a0 (by decide) (by omega)
  rw [Nat.zero_or] at e0
  have e1 := or16_at a0 a1 256 8 (by decide) h0 (by omega)
  rw [show (0 : Int) = ((0 : Nat) : Int) from rfl, e0, show (256 : Int) = ((256 : Nat) : Int) from rfl, e1]; rfl
theorem of4_val (a0 a1 a2 a3 : Nat) (h0 : a0 < 256) (h1 : a1 < 256) (h2 : a2 < 256) (h3 : a3 < 256) :
    bits .or .u32 (bits .or .u32 (bits .or .u32 (bits .or .u32 0 (a0 : Int)) ((a1 : Int) * 256)) ((a2 : Int) * 65536)) ((a3 : Int) * 16777216) = (le4 a0 a1 a2 a3 : Int) := by
  have e0 := u32_or_nat 0 a0 (by decide) (by omega)
  rw [Nat.zero_or] at e0
  have e1 := or32_at a0 a1 256 8 (by decide) h0 (by omega)
  have e2 := or32_at (a0 + a1 * 256) a2 65536 16 (by decide) (by omega) (by omega)
  have e3 := or32_at (a0 + a1 * 256 + a2 * 65536) a3 16777216 24 (by decide) (by omega) (by omega)
  rw [show (0 : Int) = ((0 : Nat) : Int) from rfl, e0, show (256 : Int) = ((256 : Nat) : Int) from rfl, e1, show (65536 : Int) = ((65536 : Nat) : Int) from rfl, e2, show (16777216 : Int) = ((16777216 : Nat) : Int) from rfl, e3]; rfl
theorem of8_val (a0 a1 a2 a3 a4 a5 a6 a7 : Nat) (h0 : a0 < 256) (h1 : a1 < 256) (h2 : a2 < 256) (h3 : a3 < 256) (h4 : a4 < 256) (h5 : a5 < 256) (h6 : a6 < 256) (h7 : a7 < 256) :
    bits .or .u64 (bits .or .u64 (bits .or .u64 (bits .or .u64 (bits .or .u64 (bits .or .u64 (bits .or .u64 (bits .or .u64 0 (a0 : Int)) ((a1 : Int) * 256)) ((a2 : Int) * 65536)) ((a3 : Int) * 16777216))
      ((a4 : Int) * 4294967296)) ((a5 : Int) * 1099511627776)) ((a6 : Int) * 281474976710656)) ((a7 : Int) * 72057594037927936) = (le8 a0 a1 a2 a3 a4 a5 a6 a7 : Int) := by
  have e0 := u64_or_nat 0 a0 (by decide) (by omega)
  rw [Nat.zero_or] at e0
  have e1 := or64_at a0 a1 256 8 (by decide) h0 (by omega)
  have e2 := or64_at (a0 + a1 * 256) a2 65536 16 (by decide) (by omega) (by omega)
  have e3 := or64_at (a0 + a1 * 256 + a2 * 65536) a3 16777216 24 (by decide) (by omega) (by omega)
  have e4 := or64_at (a0 + a1 * 256 + a2 * 65536 + a3 * 16777216) a4 4294967296 32 (by decide) (by omega) (by omega)
  have e5 := or64_at (a0 + a1 * 256 + a2 * 65536 + a3 * 16777216 + a4 * 4294967296) a5 1099511627776 40 (by decide) (by omega) (by omega)
  have e6 := or64_at (a0 + a1 * 256 + a2 * 65536 + a3 * 16777216 + a4 * 4294967296 + a5 * 1099511627776) a6 281474976710656 48 (by decide) (by omega) (by omega)
  have e7 := or64_at (a0 + a1 * 256 + a2 * 65536 + a3 * 16777216 + a4 * 4294967296 + a5 * 1099511627776 + a6 * 281474976710656) a7 72057594037927936 56 (by decide) (by omega) (by omega)
  rw [show (0 : Int) = ((0 : Nat) : Int) from rfl, e0, show (256 : Int) = ((256 : Nat) : Int) from rfl, e1, show (65536 : Int) = ((65536 : Nat) : Int) from rfl, e2, show (16777216 : Int) = ((16777216 : Nat) : Int) from rfl, e3,
    show (4294967296 : Int) = ((4294967296 : Nat) : Int) from rfl, e4, show (1099511627776 : Int) = ((1099511627776 : Nat) : Int) from rfl, e5, show (281474976710656 : Int) = ((281474976710656 : Nat) : Int) from rfl, e6,
    show (72057594037927936 : Int) = ((72057594037927936 : Nat) : Int) from rfl, e7]; rfl

/-- the number of the bytes of a number is it -/
theorem le2_digs (n : Nat) : le2 (n % 256) (n / 256 % 256) = n % 65536 := by unfold le2; omega
theorem le4_digs (n : Nat) : le4 (n % 256) (n / 256 % 256) (n / 65536 % 256) (n / 16777216 % 256) = n % 4294967296 := by unfold le4; omega
theorem le8_digs (n : Nat) (h : n < 18446744073709551616) : le8 (n % 256) (n / 256 % 256) (n / 65536 % 256) (n / 16777216 % 256) (n / 4294967296 % 256) (n / 1099511627776 % 256) (n / 281474976710656 % 256) (n / 72057594037927936 % 256) = n := by
  unfold le8; omega

end Go.Proofs.Ytaoglljkghkbpaa
