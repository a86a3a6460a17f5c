/- Contracts of a quarter and its undoing, in the program and in the document's answer: what each returns, and that the world stays; for every four words. -/
import Derived.Test.YtdniigefmlmcdabHMathCount
import Derived.Laws.BytesArg
import Derived.Test.YtdniigefmlmcdabHBlkTake
import Derived.Test.YtdniigefmlmcdabHTurnsMix
import Derived.Handy
import Derived.Test.YtdniigefmlmcdabHOrders
import Derived.ArgAppend
import Derived.Deep.RegionHeld
import Derived.Deep.RegionLaw

namespace Go.Proofs.Ytdniigefmlmcdab

/-- the first k bytes of a number, the lowest first -/
def digs (n k : Nat) : List Int := (List.range k).map fun i => ((n / 256 ^ i % 256 : Nat) : Int)
theorem digs_length (n k : Nat) : (digs n k).length = k := by simp [digs]
theorem digs_succ (n k : Nat) : digs n (k + 1) = digs n k ++ [((n / 256 ^ k % 256 : Nat) : Int)] := by simp [digs, List.range_succ]
theorem digs2 (n : Nat) : digs n 2 = [((n % 256 : Nat) : Int), ((n / 256 % 256 : Nat) : Int)] := by simp [digs, List.range_succ]
theorem digs4 (n : Nat) : digs n 4 = [((n % 256 : Nat) : Int), ((n / 256 % 256 : Nat) : Int), ((n / 65536 % 256 : Nat) : Int), ((n / 16777216 % 256 : Nat) : Int)] := by simp [digs, List.range_succ]
theorem digs8 (n : Nat) : digs n 8 = [((n % 256 : Nat) : Int), ((n / 256 % 256 : Nat) : Int), ((n / 65536 % 256 : Nat) : Int), ((n / 16777216 % 256 : Nat) : Int),
    ((n / 4294967296 % 256 : Nat) : Int), ((n / 1099511627776 % 256 : Nat) : Int), ((n / 281474976710656 % 256 : Nat) : Int), ((n / 72057594037927936 % 256 : Nat) : Int)] := by simp [digs, List.range_succ]

theorem or_join (m a p i : Nat) (hp : p = 2 ^ i) (hm : m < p) : m ||| a * p = m + a * p := by
  subst hp
  rw [Nat.or_comm, nat_join i (a * 2 ^ i) m (Nat.mul_mod_left _ _) hm, Nat.add_comm]
theorem or64_at (m a p i : Nat) (hp : p = 2 ^ i) (hm : m < p) (h : m + a * p < 18446744073709551616) :
    bits .or .u64 (m : Int) ((a : Int) * (p : Int)) = ((m + a * p : Nat) : Int) := by
  rw [← Int.natCast_mul, u64_or_nat m (a * p) (by omega) (by omega), or_join m a p i hp hm]
theorem or32_at (m a p i : Nat) (hp : p = 2 ^ i) (hm : m < p) (h : m + a * p < 4294967296) :
    bits .or .u32 (m : Int) ((a : Int) * (p : Int)) = ((m + a * p : Nat) : Int) := by
  rw [← Int.natCast_mul, u32_or_nat m (a * p) (by omega) (by omega), or_join m a p i hp hm]
theorem or16_at (m a p i : Nat) (hp : p = 2 ^ i) (hm : m < p) (h : m + a * p < 65536) :
    bits .or .u16 (m : Int) ((a : Int) * (p : Int)) = ((m + a * p : Nat) : Int) := by
  rw [← Int.natCast_mul, u16_or_nat m (a * p) (by omega) (by omega), or_join m a p i hp hm]

def le2 (a0 a1 : Nat) : Nat := a0 + a1 * 256
def le4 (a0 a1 a2 a3 : Nat) : Nat := a0 + a1 * 256 + a2 * 65536 + a3 * 16777216
def le8 (a0 a1 a2 a3 a4 a5 a6 a7 : Nat) : Nat := a0 + a1 * 256 + a2 * 65536 + a3 * 16777216 + a4 * 4294967296 + a5 * 1099511627776 + a6 * 281474976710656 + a7 * 72057594037927936

theorem of2_val (a0 a1 : Nat) (h0 : a0 < 256) (h1 : a1 < 256) :
    bits .or .u16 (bits .or .u16 0 (a0 : Int)) ((a1 : Int) * 256) = (le2 a0 a1 : Int) := by
  have e0 := u16_or_nat 0 a0 (by decide) (by omega)
  rw [Nat.zero_or] at e0
  have e1 := or16_at a0 a1 256 8 (by decide) h0 (by omega)
  rw [show (0 : Int) = ((0 : Nat) : Int) from rfl, e0, show (256 : Int) = ((256 : Nat) : Int) from rfl, e1]; rfl
theorem of4_val (a0 a1 a2 a3 : Nat) (h0 : a0 < 256) (h1 : a1 < 256) (h2 : a2 < 256) (h3 : a3 < 256) :
    bits .or .u32 (bits .or .u32 (bits .or .u32 (bits .or .u32 0 (a0 : Int)) ((a1 : Int) * 256)) ((a2 : Int) * 65536)) ((a3 : Int) * 16777216) = (le4 a0 a1 a2 a3 : Int) := by
  have e0 := u32_or_nat 0 a0 (by decide) (by omega)
  rw [Nat.zero_or] at e0
  have e1 := or32_at a0 a1 256 8 (by decide) h0 (by omega)
  have e2 := or32_at (a0 + a1 * 256) a2 65536 16 (by decide) (by omega) (by omega)
  have e3 := or32_at (a0 + a1 * 256 + a2 * 65536) a3 16777216 24 (by decide) (by omega) (by omega)
  rw [show (0 : Int) = ((0 : Nat) : Int) from rfl, e0, show (256 : Int) = ((256 : Nat) : Int) from rfl, e1, show (65536 : Int) = ((65536 : Nat) : Int) from rfl, e2, show (16777216 : Int) = ((16777216 : Nat) : Int) from rfl, e3]; rfl
theorem of8_val (a0 a1 a2 a3 a4 a5 a6 a7 : Nat) (h0 : a0 < 256) (h1 : a1 < 256) (h2 : a2 < 256) (h3 : a3 < 256) (h4 : a4 < 256) (h5 : a5 < 256) (h6 : a6 < 256) (h7 : a7 < 256) :
    bits .or .u64 (bits .or .u64 (bits .or .u64 (bits .or .u64 (bits .or .u64 (bits .or .u64 (bits .or .u64 (bits .or .u64 0 (a0 : Int)) ((a1 : Int) * 256)) ((a2 : Int) * 65536)) ((a3 : Int) * 16777216))
      ((a4 : Int) * 4294967296)) ((a5 : Int) * 1099511627776)) ((a6 : Int) * 281474976710656)) ((a7 : Int) * 72057594037927936) = (le8 a0 a1 a2 a3 a4 a5 a6 a7 : Int) := by
  have e0 := u64_or_nat 0 a0 (by decide) (by omega)
  rw [Nat.zero_or] at e0
  have e1 := or64_at a0 a1 256 8 (by decide) h0 (by omega)
  have e2 := or64_at (a0 + a1 * 256) a2 65536 16 (by decide) (by omega) (by omega)
  have e3 := or64_at (a0 + a1 * 256 + a2 * 65536) a3 16777216 24 (by decide) (by omega) (by omega)
  have e4 := or64_at (a0 + a1 * 256 + a2 * 65536 + a3 * 16777216) a4 4294967296 32 (by decide) (by omega) (by omega)
  have e5 := or64_at (a0 + a1 * 256 + a2 * 65536 + a3 * 16777216 + a4 * 4294967296) a5 1099511627776 40 (by decide) (by omega) (by omega)
  have e6 := or64_at (a0 + a1 * 256 + a2 * 65536 + a3 * 16777216 + a4 * 4294967296 + a5 * 1099511627776) a6 281474976710656 48 (by decide) (by omega) (by omega)
  have e7 := or64_at (a0 + a1 * 256 + a2 * 65536 + a3 * 16777216 + a4 * 4294967296 + a5 * 1099511627776 + a6 * 281474976710656) a7 72057594037927936 56 (by decide) (by omega) (by omega)
  rw [show (0 : Int) = ((0 : Nat) : Int) from rfl, e0, show (256 : Int) = ((256 : Nat) : Int) from rfl, e1, show (65536 : Int) = ((65536 : Nat) : Int) from rfl, e2, show (16777216 : Int) = ((16777216 : Nat) : Int) from rfl, e3,
    show (4294967296 : Int) = ((4294967296 : Nat) : Int) from rfl, e4, show (1099511627776 : Int) = ((1099511627776 : Nat) : Int) from rfl, e5, show (281474976710656 : Int) = ((281474976710656 : Nat) : Int) from rfl, e6,
    show (72057594037927936 : Int) = ((72057594037927936 : Nat) : Int) from rfl, e7]; rfl

/-- the number of the bytes of a number is it -/
theorem le2_digs (n : Nat) : le2 (n % 256) (n / 256 % 256) = n % 65536 := by unfold le2; omega
theorem le4_digs (n : Nat) : le4 (n % 256) (n / 256 % 256) (n / 65536 % 256) (n / 16777216 % 256) = n % 4294967296 := by unfold le4; omega
theorem le8_digs (n : Nat) (h : n < 18446744073709551616) : le8 (n % 256) (n / 256 % 256) (n / 65536 % 256) (n / 16777216 % 256) (n / 4294967296 % 256) (n / 1099511627776 % 256) (n / 281474976710656 % 256) (n / 72057594037927936 % 256) = n := by
  unfold le8; omega

end Go.Proofs.Ytdniigefmlmcdab

namespace Go.Proofs.Ytdniigefmlmcdab

def dig (x i : Nat) : Nat := x / 256 ^ i % 256
theorem dig_lt (x i : Nat) : dig x i < 256 := Nat.mod_lt _ (by decide)
/-- four bytes from a place on, as a number -/
def le4f (f : Nat → Nat) (o : Nat) : Nat := le4 (f o) (f (o + 1)) (f (o + 2)) (f (o + 3))
theorem le4f_lt (f : Nat → Nat) (o : Nat) (h : ∀ i, i < 4 → f (o + i) < 256) : le4f f o < 4294967296 := by
  have h0 := h 0 (by decide)
  have h1 := h 1 (by decide)
  have h2 := h 2 (by decide)
  have h3 := h 3 (by decide)
  unfold le4f le4
  simp only [Nat.add_zero] at h0
  omega
def St.of (f : Nat → Nat) : St := ⟨f 0, f 1, f 2, f 3, f 4, f 5, f 6, f 7, f 8, f 9, f 10, f 11, f 12, f 13, f 14, f 15⟩
theorem stA_of (f : Nat → Nat) : stA (St.of f) = va 16 (iv .u32 f) := rfl
theorem stA_va (s : St) : stA s = va 16 (iv .u32 s.at) := va_ext (stA_size s) fun i hi => stA_at s i hi
theorem St.of_ok (f : Nat → Nat) (h : ∀ i, i < 16 → f i < 4294967296) : (St.of f).ok :=
  ⟨h 0 (by decide), h 1 (by decide), h 2 (by decide), h 3 (by decide), h 4 (by decide), h 5 (by decide), h 6 (by decide), h 7 (by decide), h 8 (by decide), h 9 (by decide), h 10 (by decide), h 11 (by decide), h 12 (by decide), h 13 (by decide), h 14 (by decide), h 15 (by decide)⟩
theorem St.of_congr {f g : Nat → Nat} (h : ∀ i, i < 16 → f i = g i) : St.of f = St.of g := by
  unfold St.of
  rw [h 0 (by decide), h 1 (by decide), h 2 (by decide), h 3 (by decide), h 4 (by decide), h 5 (by decide), h 6 (by decide), h 7 (by decide), h 8 (by decide), h 9 (by decide), h 10 (by decide), h 11 (by decide), h 12 (by decide), h 13 (by decide), h 14 (by decide), h 15 (by decide)]
/-- the chain and the piece side by side -/
def sideN (c p : Nat → Nat) : Nat → Nat := fun i => if i < 8 then c i else le4f p (4 * (i - 8))
def mixedN (c p : Nat → Nat) : St := fwd (St.of (sideN c p)) 6
def pressN (c p : Nat → Nat) : Nat → Nat := fun i => c i ^^^ ((mixedN c p).at i ^^^ (mixedN c p).at (i + 8))
def okC (c : Nat → Nat) : Prop := ∀ i, i < 8 → c i < 4294967296
def okP (p : Nat → Nat) : Prop := ∀ i, i < 32 → p i < 256
theorem side_lt {c p : Nat → Nat} (hc : okC c) (hp : okP p) (i : Nat) (hi : i < 16) : sideN c p i < 4294967296 := by
  unfold sideN
  split
  · exact hc i (by omega)
  · exact le4f_lt p _ fun k hk => hp _ (by omega)
theorem mixed_ok {c p : Nat → Nat} (hc : okC c) (hp : okP p) : (mixedN c p).ok := fwd_ok _ (St.of_ok _ (side_lt hc hp)) _
theorem xlt32 {a b : Nat} (ha : a < 4294967296) (hb : b < 4294967296) : a ^^^ b < 4294967296 := Nat.xor_lt_two_pow (n := 32) ha hb
theorem press_ok {c p : Nat → Nat} (hc : okC c) (hp : okP p) : okC (pressN c p) := fun i hi =>
  xlt32 (hc i hi) (xlt32 ((mixedN c p).at_lt (mixed_ok hc hp) _) ((mixedN c p).at_lt (mixed_ok hc hp) _))
theorem le4f_congr {p q : Nat → Nat} (o : Nat) (h : ∀ i, i < 4 → p (o + i) = q (o + i)) : le4f p o = le4f q o := by
  have h0 := h 0 (by decide)
  simp only [Nat.add_zero] at h0
  unfold le4f
  rw [h0, h 1 (by decide), h 2 (by decide), h 3 (by decide)]
theorem press_congr {c d p q : Nat → Nat} (hc : ∀ i, i < 8 → c i = d i) (hp : ∀ i, i < 32 → p i = q i) : ∀ i, i < 8 → pressN c p i = pressN d q i := fun i hi => by
  have e : St.of (sideN c p) = St.of (sideN d q) := St.of_congr fun k hk => by
    unfold sideN
    split
    · exact hc k (by omega)
    · exact le4f_congr _ fun j hj => hp _ (by omega)
  unfold pressN mixedN
  rw [e, hc i hi]
/-- the first chain -/
def firstN (tag i : Nat) : Nat := 2654435769 * (i + 1) % 4294967296 ^^^ tag * 16777216
theorem first_ok (tag : Nat) (h : tag < 256) : okC (firstN tag) := fun i _ => xlt32 (Nat.mod_lt _ (by decide)) (by omega)
/-- n pieces of a text taken in turn; the text told by a function of the place -/
def runN (c : Nat → Nat) (t : Nat → Nat) : Nat → Nat → Nat
  | 0 => c
  | n + 1 => pressN (runN c t n) fun j => t (32 * n + j)
theorem run_ok {c t : Nat → Nat} (hc : okC c) (ht : ∀ i, t i < 256) : ∀ n, okC (runN c t n)
  | 0 => hc
  | n + 1 => press_ok (run_ok hc ht n) fun _ _ => ht _
theorem run_congr {c d t u : Nat → Nat} (hc : ∀ i, i < 8 → c i = d i) : ∀ n, (∀ i, i < 32 * n → t i = u i) → ∀ i, i < 8 → runN c t n i = runN d u n i
  | 0, _ => hc
  | n + 1, h => press_congr (run_congr hc n fun i hi => h i (by omega)) fun j hj => h _ (by omega)
theorem run_add (c t : Nat → Nat) (n : Nat) : ∀ m, runN c t (n + m) = runN (runN c t n) (fun j => t (32 * n + j)) m
  | 0 => rfl
  | m + 1 => by
    show pressN (runN c t (n + m)) _ = pressN (runN (runN c t n) _ m) _
    rw [run_add c t n m]
    congr 1
    funext j
    show t (32 * (n + m) + j) = t (32 * n + (32 * m + j))
    rw [show 32 * (n + m) + j = 32 * n + (32 * m + j) from by omega]
/-- a text with its end behind it: s tells its bytes, n its length -/
def padLen (n : Nat) : Nat := 32 * ((n + 8) / 32 + 1)
def padN (s : Nat → Nat) (n : Nat) : Nat → Nat := fun i =>
  if i < n then s i else if i = n then 128 else if i < padLen n - 8 then 0 else dig n (i - (padLen n - 8))
theorem padLen_ge (n : Nat) : n + 9 ≤ padLen n := by unfold padLen; omega
theorem padLen_lt (n : Nat) : padLen n < n + 41 := by unfold padLen; omega
theorem pad_lt (s : Nat → Nat) (n : Nat) (h : ∀ i, s i < 256) (i : Nat) : padN s n i < 256 := by
  unfold padN
  split
  · exact h i
  · split
    · decide
    · split
      · decide
      · exact dig_lt _ _
/-- the digest: its bytes -/
def chainN (tag : Nat) (s : Nat → Nat) (n : Nat) : Nat → Nat := runN (firstN tag) (padN s n) ((n + 8) / 32 + 1)
def sumN (c : Nat → Nat) : Nat → Nat := fun i => dig (c (i / 4)) (i % 4)
def ofN (tag : Nat) (s : Nat → Nat) (n : Nat) : Nat → Nat := sumN (chainN tag s n)
theorem sum_lt (c : Nat → Nat) (i : Nat) : sumN c i < 256 := dig_lt _ _
theorem sum_congr {c d : Nat → Nat} (h : ∀ i, i < 8 → c i = d i) : ∀ i, i < 32 → sumN c i = sumN d i := fun i hi => by
  unfold sumN
  rw [h (i / 4) (by omega)]
/-- whole pieces first, then what is left with its end -/
theorem pad_split (s : Nat → Nat) (n : Nat) (j : Nat) : padN s n (32 * (n / 32) + j) = if j < n % 32 then s (32 * (n / 32) + j) else if j = n % 32 then 128 else if j < padLen (n % 32) - 8 then 0 else dig n (j - (padLen (n % 32) - 8)) := by
  have e : padLen n = 32 * (n / 32) + padLen (n % 32) := by unfold padLen; omega
  have g := padLen_ge (n % 32)
  unfold padN
  rw [e]
  by_cases h1 : j < n % 32
  · rw [if_pos (by omega), if_pos h1]
  · rw [if_neg (by omega), if_neg h1]
    by_cases h2 : j = n % 32
    · rw [if_pos (by omega), if_pos h2]
    · rw [if_neg (by omega), if_neg h2]
      by_cases h3 : j < padLen (n % 32) - 8
      · rw [if_pos (by omega), if_pos h3]
      · rw [if_neg (by omega), if_neg h3]
        congr 1
        omega
theorem chain_split (tag : Nat) (s : Nat → Nat) (n : Nat) : chainN tag s n = runN (runN (firstN tag) (padN s n) (n / 32)) (fun j => padN s n (32 * (n / 32) + j)) ((n % 32 + 8) / 32 + 1) := by
  unfold chainN
  rw [← run_add]
  congr 1
  omega
end Go.Proofs.Ytdniigefmlmcdab

namespace Go.Proofs.Ytdniigefmlmcdab
open Go.RowKit

theorem infoU8 : (Try.prog.info? 5).map (fun i => (i.zero, i.size, i.bytes)) = some (some (.int .u8 0), 1, 1) := by kernel_rfl

set_option maxHeartbeats 1000000 in
theorem bytes32_any (x : Nat) (w : World) :
    Calls Try.prog 66 #[.int .u32 (x : Int)] w fun e w' => e = .returned (.agg #[.int .u8 ((x % 256 : Nat) : Int), .int .u8 ((x / 256 % 256 : Nat) : Int), .int .u8 ((x / 65536 % 256 : Nat) : Int), .int .u8 ((x / 16777216 % 256 : Nat) : Int)]) ∧ Below w.heap.size w w' := by
  go_enter Try.func66, Try.ntmps66
  go_wp2
  go_rounds 5
  go_returns
  refine ⟨by simp, ?_⟩
  go_grown

set_option maxHeartbeats 1000000 in
theorem of32_any (a0 a1 a2 a3 : Nat) (h0 : a0 < 256) (h1 : a1 < 256) (h2 : a2 < 256) (h3 : a3 < 256) (w : World) :
    Calls Try.prog 63 #[.agg #[.int .u8 (a0 : Int), .int .u8 (a1 : Int), .int .u8 (a2 : Int), .int .u8 (a3 : Int)]] w fun e w' => e = .returned (.int .u32 (le4 a0 a1 a2 a3 : Int)) ∧ Below w.heap.size w w' := by
  go_enter Try.func63, Try.ntmps63
  go_wp2
  go_rounds 5
  go_returns
  refine ⟨ret_int (of4_val a0 a1 a2 a3 h0 h1 h2 h3), ?_⟩
  go_grown

set_option maxHeartbeats 1000000 in
theorem bytes64_any (x : Nat) (w : World) :
    Calls Try.prog 65 #[.int .u64 (x : Int)] w fun e w' => e = .returned (.agg #[.int .u8 ((x % 256 : Nat) : Int), .int .u8 ((x / 256 % 256 : Nat) : Int), .int .u8 ((x / 65536 % 256 : Nat) : Int), .int .u8 ((x / 16777216 % 256 : Nat) : Int), .int .u8 ((x / 4294967296 % 256 : Nat) : Int), .int .u8 ((x / 1099511627776 % 256 : Nat) : Int), .int .u8 ((x / 281474976710656 % 256 : Nat) : Int), .int .u8 ((x / 72057594037927936 % 256 : Nat) : Int)]) ∧ Below w.heap.size w w' := by
  go_enter Try.func65, Try.ntmps65
  go_wp2
  go_rounds 9
  go_returns
  refine ⟨by simp, ?_⟩
  go_grown

theorem va4 (f : Nat → Value) : va 4 f = #[f 0, f 1, f 2, f 3] := rfl
theorem va8 (f : Nat → Value) : va 8 f = #[f 0, f 1, f 2, f 3, f 4, f 5, f 6, f 7] := rfl
theorem bytes32_va (x : Nat) (w : World) :
    Calls Try.prog 66 #[.int .u32 (x : Int)] w fun e w' => e = .returned (.agg (va 4 (iv .u8 (dig x)))) ∧ Below w.heap.size w w' := by
  refine (bytes32_any x w).mono ?_
  rintro e w' ⟨rfl, hb⟩
  refine ⟨?_, hb⟩
  simp [va4, iv, dig]
theorem bytes64_va (x : Nat) (w : World) :
    Calls Try.prog 65 #[.int .u64 (x : Int)] w fun e w' => e = .returned (.agg (va 8 (iv .u8 (dig x)))) ∧ Below w.heap.size w w' := by
  refine (bytes64_any x w).mono ?_
  rintro e w' ⟨rfl, hb⟩
  refine ⟨?_, hb⟩
  simp [va8, iv, dig]
theorem of32_va (f : Nat → Nat) (o : Nat) (h : ∀ i, i < 4 → f (o + i) < 256) (w : World) :
    Calls Try.prog 63 #[.agg (va 4 (iv .u8 fun j => f (o + j)))] w fun e w' => e = .returned (.int .u32 (le4f f o : Int)) ∧ Below w.heap.size w w' :=
  of32_any (f o) (f (o + 1)) (f (o + 2)) (f (o + 3)) (h 0 (by decide)) (h 1 (by decide)) (h 2 (by decide)) (h 3 (by decide)) w
end Go.Proofs.Ytdniigefmlmcdab

namespace Go.Proofs.Ytdniigefmlmcdab
open Go.RowKit
set_option linter.unusedSimpArgs false

theorem sizeChain : (Try.prog.info? 127).map (·.size) = some 8 := by kernel_rfl
theorem first_val (tag k : Nat) (ht : tag < 256) : bits .xor .u32 (2654435769 * ((k : Int) + 1) % 4294967296) ((tag : Int) * 16777216) = (firstN tag k : Int) := by
  have := u32_xor_nat (2654435769 * (k + 1) % 4294967296) (tag * 16777216) (Nat.mod_lt _ (by decide)) (by omega)
  unfold firstN
  rw [← this]
  congr 1
set_option maxHeartbeats 1000000 in
theorem first_any (tag : Nat) (h : tag < 256) (w : World) :
    Calls Try.prog 59 #[.int .u8 (tag : Int)] w fun e w' => e = .returned (.agg (va 8 (iv .u32 (firstN tag)))) ∧ Below w.heap.size w w' := by
  go_enter Try.func59, Try.ntmps59
  go_wp2
  go_loopw [5] (fun i wr => ∃ k : Nat, k ≤ 8 ∧ i = .int .i64 k ∧ Blk wr w.heap.size 127 (va 8 (iv .u32 fun _ => 0)) ∧ Blk wr (w.heap.size + 1) 127 (va 8 (iv .u32 (fupN k (firstN tag) fun _ => 0))) ∧ Below w.heap.size w wr) (fun i _ => 8 - (intOf i).toNat)
  case atStart =>
    refine ⟨0, by omega, rfl, ?_, ?_, ?_⟩
    · exact (Blk.new w _ _).alloc _
    · have e : (w.alloc (.cells (va 8 (iv .u32 fun _ => 0)) 127)).heap.size = w.heap.size + 1 := by simp
      rw [← e]
      exact Blk.new _ _ _
    · exact ((Below.refl _ _).alloc (Nat.le_refl _) _).alloc (by simp) _
  case round =>
    obtain ⟨k, hk, rfl, h0, h1, hb⟩ := hrel
    by_cases hlt : k < 8
    · have HV : Hid (bits .xor .u32 (2654435769 * ((k : Int) + 1) % 4294967296) ((tag : Int) * 16777216) = (firstN tag k : Int)) := first_val tag k h
      have ck := h1.cv hlt
      have fk := h1.frozen k
      go_wp2
      go_roundw
      case rel =>
        refine ⟨k + 1, by omega, by go_num, h0.put_other _ _ (by omega), ?_, hb.setCell (by simp) _⟩
        have := h1.put k (.int .u32 (firstN tag k : Int))
        rw [va_set, fup_step, ← HV.out] at this
        exact this
      case measure => simp [intOf]; omega
    · obtain rfl : k = 8 := by omega
      rw [fup_all _ 8 8 _ _ (Nat.le_refl _)] at h1
      go_wp2_with (first
        | (refine wpList_load_row (by rfl) 127 _ (by rfl) (w.heap.size + 1) (by rfl) 127 (va 8 (iv .u32 (firstN tag))) (0, 0) _ h1 Try.underlying127 (by rfl) (sizeChain.trans (by rw [va_size])) ?_; simp only [Act.put, List.setIfInBounds_toArray, List.set_cons_zero, List.set_cons_succ])
        | (refine wpList_store_row (by rfl) 127 _ _ (by rfl) w.heap.size (va 8 (iv .u32 (firstN tag))) (by rfl) (by rfl) 127 _ h0 (sizeChain.trans (by rw [va_size])) (by rw [va_size, va_size]) (iv_one _ _ _) ?_; simp only [Act.put, List.setIfInBounds_toArray, List.set_cons_zero, List.set_cons_succ])
        | fail)
      try simp only [Exit.inBlock, Exit.then]
      refine bodyPost_ret (results_cell_row Try.results59 _ _ w.heap.size 127 (va 8 (iv .u32 (firstN tag))) (0, 0) _ rfl (h0.set _) Try.underlying127 rfl (sizeChain.trans (by rw [va_size]))) rfl ?_
      exact ⟨rfl, below_setRow hb (Nat.le_refl _) _⟩

end Go.Proofs.Ytdniigefmlmcdab

namespace Go.Proofs.Ytdniigefmlmcdab
open Go.RowKit
set_option linter.unusedSimpArgs false
set_option linter.unusedVariables false

/-- the bytes up to place m -/
def zeroN (s : Nat → Nat) (n : Nat) : Nat → Nat := fun j => if j < n then s j else if j = n then 128 else 0
def endN (s : Nat → Nat) (n many : Nat) : Nat → Nat := fun j => if j < n then s j else if j = n then 128 else if j < padLen n - 8 then 0 else dig many (j - (padLen n - 8))
def bytesL (f : Nat → Nat) (m : Nat) : List Value := (List.range m).map fun j => Value.int .u8 ((f j : Nat) : Int)
theorem bytesL_succ (f : Nat → Nat) (m : Nat) : bytesL f (m + 1) = bytesL f m ++ [Value.int .u8 ((f m : Nat) : Int)] := by simp [bytesL, List.range_succ]
theorem bytesL_length (f : Nat → Nat) (m : Nat) : (bytesL f m).length = m := by simp [bytesL]
theorem bytesL_at (f : Nat → Nat) (m j : Nat) (h : j < m) : (bytesL f m)[j]? = some (.int .u8 ((f j : Nat) : Int)) := by simp [bytesL, h]
theorem bytesL_congr {f g : Nat → Nat} {m : Nat} (h : ∀ j, j < m → f j = g j) : bytesL f m = bytesL g m := List.map_congr_left fun j hj => by rw [h j (List.mem_range.1 hj)]
theorem bytesL_add (f : Nat → Nat) (m : Nat) : ∀ k, bytesL f (m + k) = bytesL f m ++ bytesL (fun j => f (m + j)) k
  | 0 => by simp [bytesL]
  | k + 1 => by rw [← Nat.add_assoc, bytesL_succ, bytesL_add f m k, bytesL_succ, List.append_assoc]

theorem own_mono {w : World} {B B' e size n : Nat} {v : Value} {xs : List Value} (h : w.ownsRow B e size v n xs) (hB : B' ≤ B) : w.ownsRow B' e size v n xs :=
  ⟨h.1, h.2.imp id fun ⟨g, cap, cur, a, b, r⟩ => ⟨g, cap, cur, a, Nat.le_trans hB b, r⟩⟩
theorem own_form {w : World} {B e size n : Nat} {v : Value} {xs : List Value} (h : w.ownsRow B e size v n xs) (hn : 0 < n) : ∃ g cap, v = .slice (some ⟨g, 0, none⟩) n cap ∧ B ≤ g ∧ g < w.heap.size := by
  rcases h.2 with ⟨_, h0⟩ | ⟨g, cap, cur, rfl, hb, hg, _⟩
  · omega
  · exact ⟨g, cap, rfl, hb, (Array.getElem?_eq_some_iff.1 hg).1⟩
theorem zero_first (s : Nat → Nat) (n : Nat) : bytesL s n ++ [Value.int .u8 128] = bytesL (zeroN s n) (n + 1) := by
  rw [bytesL_succ, bytesL_congr (f := zeroN s n) (g := s) (fun j hj => if_pos hj)]
  have : zeroN s n n = 128 := by unfold zeroN; rw [if_neg (by omega), if_pos rfl]
  rw [this]
  rfl
theorem zero_step (s : Nat → Nat) (n m : Nat) (h : n < m) : bytesL (zeroN s n) (m + 1) = bytesL (zeroN s n) m ++ [Value.int .u8 0] := by
  rw [bytesL_succ]
  have : zeroN s n m = 0 := by unfold zeroN; rw [if_neg (by omega), if_neg (by omega)]
  rw [this]
  rfl
theorem end_last (s : Nat → Nat) (n many : Nat) : bytesL (zeroN s n) (padLen n - 8) ++ bytesL (dig many) 8 = bytesL (endN s n many) (padLen n) := by
  have g := padLen_ge n
  have e : bytesL (endN s n many) (padLen n) = bytesL (endN s n many) (padLen n - 8 + 8) := by rw [show padLen n - 8 + 8 = padLen n from by omega]
  rw [e, bytesL_add]
  congr 1
  · refine bytesL_congr fun j hj => ?_
    unfold zeroN endN
    by_cases h1 : j < n
    · rw [if_pos h1, if_pos h1]
    · rw [if_neg h1, if_neg h1]
      by_cases h2 : j = n
      · rw [if_pos h2, if_pos h2]
      · rw [if_neg h2, if_neg h2, if_pos hj]
  · refine bytesL_congr fun j hj => ?_
    unfold endN
    rw [if_neg (by omega), if_neg (by omega), if_neg (by omega), show padLen n - 8 + j - (padLen n - 8) = j from by omega]
theorem ownBelow {w w' : World} {B e size n : Nat} {v : Value} {xs : List Value} (h : w.ownsRow B e size v n xs) (hb : Below w.heap.size w w') : w'.ownsRow B e size v n xs := by
  refine ⟨h.1, ?_⟩
  rcases h.2 with hn | ⟨g, cap, cur, rfl, hg, hgg, rest⟩
  · exact .inl hn
  · exact .inr ⟨g, cap, cur, rfl, hg, (hb.block g (Array.getElem?_eq_some_iff.1 hgg).1).trans hgg, rest⟩
theorem ownSetRow {w : World} {B e size n g2 cap g : Nat} {xs : List Value} (h : w.ownsRow B e size (.slice (some ⟨g2, 0, none⟩) n cap) n xs) (hne : g2 ≠ g) (cs : Array Value) : (w.setRow g cs).ownsRow B e size (.slice (some ⟨g2, 0, none⟩) n cap) n xs := by
  refine ⟨h.1, ?_⟩
  rcases h.2 with ⟨hn, _⟩ | ⟨g', cap', cur, hv, hg, hgg, rest⟩
  · cases hn
  · refine .inr ⟨g', cap', cur, hv, hg, ?_, rest⟩
    have : g2 = g' := by injection hv with hv; injection hv with hv; injection hv
    subst this
    rw [setRow_other w g g2 cs hne]
    exact hgg
theorem size8 : (Try.prog.info? 142).map (·.size) = some 8 := by kernel_rfl

set_option maxRecDepth 100000 in
set_option maxHeartbeats 4000000 in
theorem padded_any (g off n many : Nat) (s : Nat → Nat) (hn : n ≤ 31) (hm : many < 9223372036854775808) (w : World) (hs : ∀ j, j < n → w.cell? ⟨g, off + j, none⟩ = some (.int .u8 ((s j : Nat) : Int))) :
    Calls Try.prog 61 #[.slice (some ⟨g, off, none⟩) n n, .int .i64 (many : Int)] w fun e w' => ∃ v, e = .returned v ∧ w'.ownsRow w.heap.size 5 1 v (padLen n) (bytesL (endN s n many) (padLen n)) ∧ Below w.heap.size w w' := by
  have HM : Hid (many < 9223372036854775808) := hm
  clear hm
  obtain ⟨i0, hi, hz0, hz1, hz2⟩ := info_parts infoU8
  go_enter Try.func61, Try.ntmps61
  have HO : Hid (∀ o : Obj, ∀ b, (some ⟨g, off, none⟩ : Option Addr) = some b → ∀ j u, (bytesL s n)[j]? = some u → (w.alloc o).cell? (b.add j) = some u) := fun o b hb j u hu => by
    obtain rfl := Option.some.inj hb
    have hj : j < n := by
      have := (List.getElem?_eq_some_iff.1 hu).1
      rwa [bytesL_length] at this
    rw [Addr.add_mid, World.cell?_alloc_some w _ o (by rw [hs j hj]; rfl), hs j hj, ← hu, bytesL_at s n j hj]
  have HS := hs
  clear hs HS
  go_wp2_with (first
    | (at_builtin; refine wpList_append_grows _ rfl _ _ 119 rfl 5 i0 (.int .u8 0) 1 1 Try.underlying119 hi hz0 hz1 hz2 rfl (by decide) (some ⟨g, off, none⟩) n n (bytesL s n) rfl (fun h => nomatch h) (by rw [bytesL_length]; omega) (HO.out _) ⟨w.heap.size, 0, none⟩ 1 1 [.int .u8 128] rfl rfl (cell_one_new _ _ _) (fun x hx => by simp at hx; subst hx; rfl) (by omega) (by unfold maxLen; omega) (by omega) ?_)
    | go_in)
  intro v1 w1 hown1 hgrow1
  have hb1 : Below w.heap.size w w1 := ((Below.refl _ _).alloc (Nat.le_refl _) _).grown hgrow1 (by simp) (fun k hk => nomatch hk)
  have hown := own_mono hown1 (Nat.le_succ w.heap.size)
  rw [zero_first] at hown
  clear hown1 hgrow1 HO
  obtain ⟨g1, cap1, rfl, hg1, hg1'⟩ := own_form hown (Nat.succ_pos n)
  have pg := padLen_ge n
  have pl : padLen n = 32 * ((n + 8) / 32 + 1) := rfl
  go_wp2_with fail
  go_loopw [5] (fun v wr => ∃ m g2 cap2 : Nat, n + 1 ≤ m ∧ m ≤ padLen n - 8 ∧ v = .slice (some ⟨g2, 0, none⟩) m cap2 ∧ wr.ownsRow w.heap.size 5 1 v m (bytesL (zeroN s n) m) ∧ Below w.heap.size w wr) (fun v _ => padLen n - 8 - (match v with | .slice _ k _ => k | _ => 0))
  case atStart => exact ⟨n + 1, g1, cap1, Nat.le_refl _, by omega, rfl, hown, hb1⟩
  case round =>
    clear hown hb1
    obtain ⟨m, g2, cap2, hm1, hm2, rfl, hown, hb⟩ := hrel
    have hv := hown.lt
    by_cases hlt : m < padLen n - 8
    · have t1 : ¬ ((m : Int) % 32 = 24) := by omega
      have hmm : m < 64 := by omega
      have HZ : Hid (bytesL (zeroN s n) (m + 1) = bytesL (zeroN s n) m ++ [Value.int .u8 0]) := zero_step s n m (by omega)
      generalize bytesL (zeroN s n) m = L at *
      clear pl
      go_wp2_with (first
        | (at_builtin; refine wpList_append_own _ rfl _ _ 119 rfl w.heap.size 5 i0 (.int .u8 0) 1 1 Try.underlying119 hi hz0 hz1 hz2 rfl (by decide) _ _ _ rfl (hown.alloc _) ⟨wr.heap.size, 0, none⟩ 1 1 [.int .u8 0] rfl rfl (cell_one_new _ _ _) (fun x hx => by simp at hx; subst hx; rfl) (by unfold maxLen; omega) (by omega) (by have := hb.size; simp; omega) ?_)
        | go_in)
      intro v' w2 hown' hgrow _
      have hb2 : Below w.heap.size w w2 := (hb.alloc (by have := hb.size; omega) _).grown hgrow (by have := hb.size; simp; omega) (fun k hk => (hv k hk).1)
      rw [← HZ.out] at hown'
      obtain ⟨g3, cap3, rfl, hg3, hg3'⟩ := own_form hown' (Nat.succ_pos m)
      clear hown hv hgrow hb
      go_wp2_with fail
      go_roundw
      case rel => exact ⟨m + 1, g3, cap3, by omega, by omega, rfl, hown', hb2⟩
      case measure => simp; omega
    · obtain rfl : m = padLen n - 8 := by omega
      have t1 : ((padLen n - 8 : Nat) : Int) % 32 = 24 := by omega
      have hB : Hid (∀ w : World, Calls Try.prog 65 #[.int .u64 (many : Int)] w fun e w' => e = .returned (.agg (va 8 (iv .u8 (dig many)))) ∧ Below w.heap.size w w') := fun w => bytes64_va many w
      have HE : Hid (bytesL (zeroN s n) (padLen n - 8) ++ bytesL (dig many) 8 = bytesL (endN s n many) (padLen n)) := end_last s n many
      have HP : Hid (padLen n - 8 + 8 = padLen n) := by show _ = _; omega
      have hpl : padLen n - 8 ≤ 64 := by have := padLen_lt n; omega
      generalize bytesL (zeroN s n) (padLen n - 8) = L at *
      generalize padLen n - 8 = m at *
      clear pl pg
      have hmu : (many : Int) % 18446744073709551616 = (many : Int) := by have := HM.out; omega
      go_wp2_with fail
      refine (hB.out _).mono ?_
      rintro e w2 ⟨rfl, hb2⟩
      have hown2 : w2.ownsRow w.heap.size 5 1 (.slice (some ⟨g2, 0, none⟩) m cap2) m L := ownBelow hown hb2
      have hb' : Below w.heap.size w w2 := hb.trans (hb2.mono hb.size)
      have hg2l : g2 < w2.heap.size := (hown2.lt g2 rfl).2
      clear hown hb hb2 hB hv hmu
      have n0 : Blk (w2.alloc (.cells #[.int .u8 0, .int .u8 0, .int .u8 0, .int .u8 0, .int .u8 0, .int .u8 0, .int .u8 0, .int .u8 0] 142)) w2.heap.size 142 (va 8 (iv .u8 fun _ => 0)) := Blk.new _ _ _
      have A1 : Hid (((w2.alloc (.cells #[.int .u8 0, .int .u8 0, .int .u8 0, .int .u8 0, .int .u8 0, .int .u8 0, .int .u8 0, .int .u8 0] 142)).setRow w2.heap.size (va 8 (iv .u8 (dig many)))).ownsRow w.heap.size 5 1 (.slice (some ⟨g2, 0, none⟩) m cap2) m L) := ownSetRow (hown2.alloc _) (by omega) _
      have A2 : Hid (∀ j u, (bytesL (dig many) 8)[j]? = some u → ((w2.alloc (.cells #[.int .u8 0, .int .u8 0, .int .u8 0, .int .u8 0, .int .u8 0, .int .u8 0, .int .u8 0, .int .u8 0] 142)).setRow w2.heap.size (va 8 (iv .u8 (dig many)))).cell? ((⟨w2.heap.size, 0, none⟩ : Addr).add j) = some u) := fun j u hu => by
        have := (n0.set (va 8 (iv .u8 (dig many)))).range 0 8 (Nat.le_refl _) j u (by rw [← hu]; simp [bytesL, iv])
        rw [Addr.add_mid]
        exact this
      have A3 : Hid (Below w.heap.size w ((w2.alloc (.cells #[.int .u8 0, .int .u8 0, .int .u8 0, .int .u8 0, .int .u8 0, .int .u8 0, .int .u8 0, .int .u8 0] 142)).setRow w2.heap.size (va 8 (iv .u8 (dig many))))) := below_setRow (hb'.alloc hb'.size _) hb'.size _
      have A4 : Hid (w.heap.size ≤ ((w2.alloc (.cells #[.int .u8 0, .int .u8 0, .int .u8 0, .int .u8 0, .int .u8 0, .int .u8 0, .int .u8 0, .int .u8 0] 142)).setRow w2.heap.size (va 8 (iv .u8 (dig many)))).heap.size) := A3.out.size
      have A5 := hown2.lt
      clear hown2 hb'
      go_wp2_with (first
        | (refine wpList_store_row (by rfl) 142 _ _ (by rfl) w2.heap.size (va 8 (iv .u8 (dig many))) (by rfl) (by rfl) 142 _ n0 (size8.trans (by rw [va_size])) (by rw [va_size, va_size]) (iv_one _ _ _) ?_; simp only [Act.put, List.setIfInBounds_toArray, List.set_cons_zero, List.set_cons_succ])
        | (at_builtin; refine wpList_append_own _ rfl _ _ 119 rfl w.heap.size 5 i0 (.int .u8 0) 1 1 Try.underlying119 hi hz0 hz1 hz2 rfl (by decide) _ _ _ rfl A1.out ⟨w2.heap.size, 0, none⟩ 8 8 (bytesL (dig many) 8) rfl (by rw [bytesL_length]) A2.out (mem_iv_one _ _ _) (by unfold maxLen; omega) (by omega) A4.out ?_)
        | go_in)
      intro v3 w3 hown3 hgrow _
      have hb3 : Below w.heap.size w w3 := A3.out.grown hgrow A4.out (fun k hk => (A5 k hk).1)
      rw [HE.out, HP.out] at hown3
      clear A1 A2 A3 A4 A5 hgrow n0
      go_wp2_with fail
      go_ret
      exact ⟨_, rfl, hown3, hb3⟩
end Go.Proofs.Ytdniigefmlmcdab

namespace Go.Proofs.Ytdniigefmlmcdab
open Go.RowKit
set_option linter.unusedSimpArgs false
set_option linter.unusedVariables false

/-- a hasher's cells -/
def hashV (c p : Nat → Nat) (m : Nat) : Nat → Value := fun i => if i < 8 then .int .u32 ((c i : Nat) : Int) else if i < 40 then .int .u8 ((p (i - 8) : Nat) : Int) else .int .i64 (m : Int)

set_option maxHeartbeats 4000000 in
theorem new_any (tag : Nat) (h : tag < 256) (w : World) :
    Calls Try.prog 54 #[.int .u8 (tag : Int)] w fun e w' => ∃ g, e = .returned (.pointer (some ⟨g, 0, none⟩)) ∧ w.heap.size ≤ g ∧ Blk w' g 131 (va 41 (hashV (firstN tag) (fun _ => 0) 0)) ∧ Below w.heap.size w w' := by
  have hF : Hid (∀ w : World, Calls Try.prog 59 #[.int .u8 (tag : Int)] w fun e w' => e = .returned (.agg #[.int .u32 ((firstN tag 0 : Nat) : Int), .int .u32 ((firstN tag 1 : Nat) : Int), .int .u32 ((firstN tag 2 : Nat) : Int), .int .u32 ((firstN tag 3 : Nat) : Int), .int .u32 ((firstN tag 4 : Nat) : Int), .int .u32 ((firstN tag 5 : Nat) : Int), .int .u32 ((firstN tag 6 : Nat) : Int), .int .u32 ((firstN tag 7 : Nat) : Int)]) ∧ Below w.heap.size w w') := fun w => first_any tag h w
  generalize firstN tag = c at *
  have hZ : Hid (#[Value.int .u32 ((c 0 : Nat) : Int), Value.int .u32 ((c 1 : Nat) : Int), Value.int .u32 ((c 2 : Nat) : Int), Value.int .u32 ((c 3 : Nat) : Int), Value.int .u32 ((c 4 : Nat) : Int), Value.int .u32 ((c 5 : Nat) : Int), Value.int .u32 ((c 6 : Nat) : Int), Value.int .u32 ((c 7 : Nat) : Int), .int .u8 0, .int .u8 0, .int .u8 0, .int .u8 0, .int .u8 0, .int .u8 0, .int .u8 0, .int .u8 0, .int .u8 0, .int .u8 0, .int .u8 0, .int .u8 0, .int .u8 0, .int .u8 0, .int .u8 0, .int .u8 0, .int .u8 0, .int .u8 0, .int .u8 0, .int .u8 0, .int .u8 0, .int .u8 0, .int .u8 0, .int .u8 0, .int .u8 0, .int .u8 0, .int .u8 0, .int .u8 0, .int .u8 0, .int .u8 0, .int .u8 0, .int .u8 0, .int .i64 0] = va 41 (hashV c (fun _ => 0) 0)) := by
    show _ = _
    simp [va, hashV, List.range_succ]
  go_enter Try.func54, Try.ntmps54
  go_wp2_with fail
  refine (hF.out _).mono ?_
  rintro e w1 ⟨rfl, hb1⟩
  go_wp2_with fail
  go_returns
  refine ⟨w1.heap.size, rfl, hb1.size, ?_, hb1.alloc hb1.size _⟩
  rw [← hZ.out]
  exact Blk.new _ _ _
end Go.Proofs.Ytdniigefmlmcdab

namespace Go.Proofs.Ytdniigefmlmcdab
open Go Go.RowKit

/-- the byte of a text at a place -/
def byteAt (s : ByteArray) (i : Nat) : Nat := (s.data.toList.getD i 0).toNat
theorem byteAt_lt (s : ByteArray) (j : Nat) : byteAt s j < 256 := UInt8.toNat_lt _
theorem bytes_prefix (s : ByteArray) (n : Nat) (h : n ≤ s.size) : ((s.extract 0 n).data.map fun b => Value.int .u8 (b.toNat : Int)).toList = bytesL (byteAt s) n := by
  have hs : s.data.toList.length = s.size := Array.length_toList
  apply List.ext_getElem?
  intro i
  rw [Array.toList_map, List.getElem?_map]
  have e : (s.extract 0 n).data.toList = s.data.toList.take n := by
    rw [ByteArray.data_extract]
    simp
  rw [e]
  by_cases hi : i < n
  · rw [bytesL_at _ _ _ hi, List.getElem?_take_of_lt hi, List.getElem?_eq_getElem (by omega)]
    unfold byteAt
    rw [List.getD_eq_getElem?_getD, List.getElem?_eq_getElem (by omega)]
    rfl
  · rw [List.getElem?_eq_none (by rw [List.length_take]; omega), List.getElem?_eq_none (by rw [bytesL_length]; omega)]
    rfl
theorem byteAt_drop (s : ByteArray) (a j : Nat) : byteAt (s.extract a s.size) j = byteAt s (a + j) := by
  unfold byteAt
  rw [ByteArray.data_extract]
  have hs : s.size = s.data.size := rfl
  simp only [List.getD_eq_getElem?_getD, Array.toList_extract, List.extract_eq_take_drop]
  rw [List.getElem?_take, List.getElem?_drop]
  split
  · rfl
  · rw [List.getElem?_eq_none (by simp; omega)]
section
variable {P : Program}
theorem run_copy_string (w : World) (dT sT ty elem : TypeId) (g o dLen dCap : Nat) (s : ByteArray) (cur : Array Value) (t : TypeId) (n : Nat)
    (hu : P.underlying dT = some (.slice elem)) (hs : (P.info? elem).map (·.size) = some 1)
    (hg : w.heap[g]? = some (.cells cur t (0, 0))) (hn : n = Nat.min s.size dLen) (hfit : o + n ≤ cur.size) :
    (Builtin.copy_ #[dT, sT] ty #[.slice (some ⟨g, o, none⟩) dLen dCap, .string s]).run P w =
      .ok (goInt n) (w.setRow g (splice cur.toList o (bytesL (byteAt s) n)).toArray) := by
  have hns : n ≤ s.size := by rw [hn]; exact Nat.min_le_left _ _
  have eL : List.take n (List.map (fun b : UInt8 => Value.int .u8 (b.toNat : Int)) s.data.toList) = bytesL (byteAt s) n := by
    rw [← bytes_prefix s n hns]
    simp
  have hst := run_storeCells_at P g o t (List.take n (List.map (fun b : UInt8 => Value.int .u8 (b.toNat : Int)) s.data.toList)) 0 cur w hg (by rw [eL, bytesL_length]; simpa using hfit) (by rw [eL]; exact mem_iv_one _ _ _)
  have e2 : (w.setRow g (cur.toList.take (o + 0) ++ List.take n (List.map (fun b : UInt8 => Value.int .u8 (b.toNat : Int)) s.data.toList) ++ cur.toList.drop (o + 0 + (List.take n (List.map (fun b : UInt8 => Value.int .u8 (b.toNat : Int)) s.data.toList)).length)).toArray) = w.setRow g (splice cur.toList o (bytesL (byteAt s) n)).toArray := by
    rw [eL]
    unfold splice
    rw [List.append_assoc, Nat.add_zero]
  rw [e2] at hst
  cases hq : P.info? elem with
  | none => simp [hq] at hs
  | some i =>
    have hi : i.size = 1 := by simpa [hq] using hs
    generalize w.setRow g (splice cur.toList o (bytesL (byteAt s) n)).toArray = W at *
    simp [Builtin.copy_, run_underlying hu, Builtin.lenOf, Builtin.firstCells, sizeOf, typeInfo, hq, ← hn, hst]
/-- the same as one step of a region that draws its order -/
theorem step_copy_string {ops : Array Oper} {o : Oper} {a : Act} {w : World} {K : Act → World → Prop} {Q : Exit → Act → World → Prop} {E : Prop} (hgd : o.guard = none) (d s : Operand) (dT sT : TypeId)
    (ho : o.op = .call { callee := .builtin .copy, args := #[d, s], argTypes := #[dT, sT] }) (elem : TypeId) (hu : P.underlying dT = some (.slice elem)) (hsz : (P.info? elem).map (·.size) = some 1)
    (g off dLen dCap : Nat) (str : ByteArray) (hd : a.eval d = .slice (some ⟨g, off, none⟩) dLen dCap) (hs : a.eval s = .string str)
    (cur : Array Value) (t : TypeId) (hg : w.heap[g]? = some (.cells cur t (0, 0))) (n : Nat) (hn : n = Nat.min str.size dLen) (hfit : off + n ≤ cur.size)
    (h : K (a.put o.dst (goInt n)) (w.setRow g (splice cur.toList off (bytesL (byteAt str) n)).toArray)) :
    if Region.wanted o (yielded ops a.tmps) = true then Oper.wp P o a w K Q else E := by
  have hw : Region.wanted o (yielded ops a.tmps) = true := by simp [Region.wanted, hgd]
  rw [if_pos hw]
  have hrun := run_copy_string (P := P) w dT sT o.type elem g off dLen dCap str cur t n hu hsz hg hn hfit
  unfold Oper.wp
  simp [execOp, ho, resolve, invoke, builtin, hd, hs, hrun, Result.andThen]
  exact h
end
/-- n bytes laid into a piece from place r on -/
def laidN (p : Nat → Nat) (r n : Nat) (b : Nat → Nat) : Nat → Nat := fun j => if r ≤ j ∧ j < r + n then b (j - r) else p j
theorem hash_copy (c p : Nat → Nat) (m r n : Nat) (b : Nat → Nat) (h : r + n ≤ 32) : (splice (va 41 (hashV c p m)).toList (8 + r) (bytesL b n)).toArray = va 41 (hashV c (laidN p r n b) m) := by
  rw [va_toList]
  have e := splice_va 41 (8 + r) n (hashV c p m) (fun j => Value.int .u8 ((b j : Nat) : Int)) (by omega)
  refine Eq.trans (by rfl) (e.trans ?_)
  refine va_congr fun i hi => ?_
  unfold overF
  by_cases h1 : 8 + r ≤ i ∧ i < 8 + r + n
  · rw [if_pos h1]
    unfold hashV laidN
    rw [if_neg (by omega), if_pos (by omega), if_pos (by omega), show i - 8 - r = i - (8 + r) from by omega]
  · rw [if_neg h1]
    unfold hashV laidN
    by_cases h2 : i < 8
    · rw [if_pos h2, if_pos h2]
    · rw [if_neg h2, if_neg h2]
      by_cases h3 : i < 40
      · rw [if_pos h3, if_pos h3, if_neg (by omega)]
      · rw [if_neg h3, if_neg h3]
theorem hash_many (c p : Nat → Nat) (m m' : Nat) : va 41 (upd (hashV c p m) 40 (.int .i64 (m' : Int))) = va 41 (hashV c p m') := va_congr fun i hi => by
  unfold upd hashV
  by_cases h : i = 40
  · subst h
    rfl
  · rw [if_neg h]
    by_cases h2 : i < 8
    · rw [if_pos h2, if_pos h2]
    · rw [if_neg h2, if_neg h2, if_pos (by omega), if_pos (by omega)]
theorem hash_chain (c d p : Nat → Nat) (m : Nat) : va 41 (over (hashV c p m) 0 ((List.range 8).map (iv .u32 d))) = va 41 (hashV d p m) := va_congr fun i hi => by
  unfold over hashV
  by_cases h2 : i < 8
  · rw [if_pos (by simp; omega), if_pos h2]
    simp [h2, iv]
  · rw [if_neg (by simp; omega), if_neg h2, if_neg h2]
end Go.Proofs.Ytdniigefmlmcdab

namespace Go.Proofs.Ytdniigefmlmcdab
open Go.RowKit

theorem turn_at (x y : Nat) (i : Int) (s : Nat) (hs : (i % 32).toNat = s) (w : World) (hx : x < 4294967296) (h : turnN x s = y) :
    Calls Try.prog 75 #[.int .u32 x, .int .i64 i] w fun e w' => e = .returned (.int .u32 y) ∧ w' = w := by
  subst hs; exact turn_to x y i hx h w
set_option maxHeartbeats 1000000 in
theorem quarter_core (a b c d a1 d1 c1 b1 a2 d2 c2 b2 x1 x2 x3 x4 : Nat)
    (r1 : ((a : Int) + (b : Int)) % 4294967296 = (a1 : Int)) (r2 : bits .xor .u32 (d : Int) (a1 : Int) = (x1 : Int))
    (r3 : ((c : Int) + (d1 : Int)) % 4294967296 = (c1 : Int)) (r4 : bits .xor .u32 (b : Int) (c1 : Int) = (x2 : Int))
    (r5 : ((a1 : Int) + (b1 : Int)) % 4294967296 = (a2 : Int)) (r6 : bits .xor .u32 (d1 : Int) (a2 : Int) = (x3 : Int))
    (r7 : ((c1 : Int) + (d2 : Int)) % 4294967296 = (c2 : Int)) (r8 : bits .xor .u32 (b1 : Int) (c2 : Int) = (x4 : Int))
    (t1 : Hid (∀ w : World, Calls Try.prog 75 #[.int .u32 (x1 : Int), .int .i64 16] w fun e w' => e = .returned (.int .u32 (d1 : Int)) ∧ w' = w))
    (t2 : Hid (∀ w : World, Calls Try.prog 75 #[.int .u32 (x2 : Int), .int .i64 12] w fun e w' => e = .returned (.int .u32 (b1 : Int)) ∧ w' = w))
    (t3 : Hid (∀ w : World, Calls Try.prog 75 #[.int .u32 (x3 : Int), .int .i64 8] w fun e w' => e = .returned (.int .u32 (d2 : Int)) ∧ w' = w))
    (t4 : Hid (∀ w : World, Calls Try.prog 75 #[.int .u32 (x4 : Int), .int .i64 7] w fun e w' => e = .returned (.int .u32 (b2 : Int)) ∧ w' = w)) (w : World) :
    Calls Try.prog 74 #[.int .u32 (a : Int), .int .u32 (b : Int), .int .u32 (c : Int), .int .u32 (d : Int)] w fun e w' => e = .returned (.tuple #[.int .u32 (a2 : Int), .int .u32 (b2 : Int), .int .u32 (c2 : Int), .int .u32 (d2 : Int)]) ∧ w' = w := by
  go_enter Try.func74, Try.ntmps74
  go_wp2_with fail
  refine (t1.out _).mono ?_
  rintro e w' ⟨rfl, rfl⟩
  go_wp2_with fail
  refine (t2.out _).mono ?_
  rintro e w' ⟨rfl, rfl⟩
  go_wp2_with fail
  refine (t3.out _).mono ?_
  rintro e w' ⟨rfl, rfl⟩
  go_wp2_with fail
  refine (t4.out _).mono ?_
  rintro e w' ⟨rfl, rfl⟩
  go_wp2
  go_returns
  exact ⟨rfl, rfl⟩
theorem quarter_any (a b c d : Nat) (ha : a < 4294967296) (hb : b < 4294967296) (hc : c < 4294967296) (hd : d < 4294967296) (q : Q4) (hq : quarterN ⟨a, b, c, d⟩ = q) (w : World) :
    Calls Try.prog 74 #[.int .u32 (a : Int), .int .u32 (b : Int), .int .u32 (c : Int), .int .u32 (d : Int)] w fun e w' => e = .returned (.tuple #[.int .u32 (q.a : Int), .int .u32 (q.b : Int), .int .u32 (q.c : Int), .int .u32 (q.d : Int)]) ∧ w' = w := by
  have o1 := half_ok ⟨a, b, c, d⟩ 16 12 ⟨ha, hb, hc, hd⟩
  have o2 := half_ok _ 8 7 o1
  subst hq
  show Calls _ _ _ _ fun e w' => e = .returned (.tuple #[.int .u32 ((half (half ⟨a, b, c, d⟩ 16 12) 8 7).a : Int), .int .u32 ((half (half ⟨a, b, c, d⟩ 16 12) 8 7).b : Int), .int .u32 ((half (half ⟨a, b, c, d⟩ 16 12) 8 7).c : Int), .int .u32 ((half (half ⟨a, b, c, d⟩ 16 12) 8 7).d : Int)]) ∧ _
  have e1 : half ⟨a, b, c, d⟩ 16 12 = ⟨add32 a b, turnN (b ^^^ add32 c (turnN (d ^^^ add32 a b) 16)) 12, add32 c (turnN (d ^^^ add32 a b) 16), turnN (d ^^^ add32 a b) 16⟩ := rfl
  generalize half ⟨a, b, c, d⟩ 16 12 = q at *
  obtain ⟨a1, b1, c1, d1⟩ := q
  simp only [Q4.mk.injEq] at e1
  obtain ⟨e1, e2, e3, e4⟩ := e1
  obtain ⟨ha1, hb1, hc1, hd1⟩ := o1
  obtain ⟨ha2, hb2, hc2, hd2⟩ := o2
  rw [← e1] at e2 e3 e4
  rw [← e4] at e2 e3
  rw [← e3] at e2
  simp only [half] at *
  refine quarter_core a b c d a1 d1 c1 b1 _ _ _ _ _ _ _ _ ?_ (u32_xor_nat _ _ hd ha1) ?_ (u32_xor_nat _ _ hb hc1) (add32_int _ _) (u32_xor_nat _ _ hd1 ha2) (add32_int _ _) (u32_xor_nat _ _ hb1 hc2) ?_ ?_ ?_ ?_ w
  · rw [add32_int, ← e1]
  · rw [add32_int, ← e3]
  · exact fun w => turn_at _ _ (16) 16 (by decide) w (xor_lt32 _ _ hd ha1) e4.symm
  · exact fun w => turn_at _ _ (12) 12 (by decide) w (xor_lt32 _ _ hb hc1) e2.symm
  · exact fun w => turn_at _ _ (8) 8 (by decide) w (xor_lt32 _ _ hd1 ha2) rfl
  · exact fun w => turn_at _ _ (7) 7 (by decide) w (xor_lt32 _ _ hb1 hc2) rfl

set_option maxHeartbeats 1000000 in
theorem undo_core (a b c d a1 d1 c1 b1 a2 d2 c2 b2 x1 x2 x3 x4 : Nat)
    (r2 : bits .xor .u32 (x1 : Int) (c : Int) = (b1 : Int)) (r3 : ((c : Int) - (d : Int)) % 4294967296 = (c1 : Int))
    (r4 : bits .xor .u32 (x2 : Int) (a : Int) = (d1 : Int)) (r1 : ((a : Int) - (b1 : Int)) % 4294967296 = (a1 : Int))
    (r6 : bits .xor .u32 (x3 : Int) (c1 : Int) = (b2 : Int)) (r7 : ((c1 : Int) - (d1 : Int)) % 4294967296 = (c2 : Int))
    (r8 : bits .xor .u32 (x4 : Int) (a1 : Int) = (d2 : Int)) (r5 : ((a1 : Int) - (b2 : Int)) % 4294967296 = (a2 : Int))
    (t1 : Hid (∀ w : World, Calls Try.prog 75 #[.int .u32 (b : Int), .int .i64 (-7)] w fun e w' => e = .returned (.int .u32 (x1 : Int)) ∧ w' = w))
    (t2 : Hid (∀ w : World, Calls Try.prog 75 #[.int .u32 (d : Int), .int .i64 (-8)] w fun e w' => e = .returned (.int .u32 (x2 : Int)) ∧ w' = w))
    (t3 : Hid (∀ w : World, Calls Try.prog 75 #[.int .u32 (b1 : Int), .int .i64 (-12)] w fun e w' => e = .returned (.int .u32 (x3 : Int)) ∧ w' = w))
    (t4 : Hid (∀ w : World, Calls Try.prog 75 #[.int .u32 (d1 : Int), .int .i64 (-16)] w fun e w' => e = .returned (.int .u32 (x4 : Int)) ∧ w' = w)) (w : World) :
    Calls Try.prog 73 #[.int .u32 (a : Int), .int .u32 (b : Int), .int .u32 (c : Int), .int .u32 (d : Int)] w fun e w' => e = .returned (.tuple #[.int .u32 (a2 : Int), .int .u32 (b2 : Int), .int .u32 (c2 : Int), .int .u32 (d2 : Int)]) ∧ w' = w := by
  go_enter Try.func73, Try.ntmps73
  go_wp2_with fail
  refine (t1.out _).mono ?_
  rintro e w' ⟨rfl, rfl⟩
  go_wp2_with fail
  refine (t2.out _).mono ?_
  rintro e w' ⟨rfl, rfl⟩
  go_wp2_with fail
  refine (t3.out _).mono ?_
  rintro e w' ⟨rfl, rfl⟩
  go_wp2_with fail
  refine (t4.out _).mono ?_
  rintro e w' ⟨rfl, rfl⟩
  go_wp2
  go_returns
  exact ⟨by rw [r5], rfl⟩
theorem undo_any (a b c d : Nat) (ha : a < 4294967296) (hb : b < 4294967296) (hc : c < 4294967296) (hd : d < 4294967296) (q : Q4) (hq : undoN ⟨a, b, c, d⟩ = q) (w : World) :
    Calls Try.prog 73 #[.int .u32 (a : Int), .int .u32 (b : Int), .int .u32 (c : Int), .int .u32 (d : Int)] w fun e w' => e = .returned (.tuple #[.int .u32 (q.a : Int), .int .u32 (q.b : Int), .int .u32 (q.c : Int), .int .u32 (q.d : Int)]) ∧ w' = w := by
  have o1 := unhalf_ok ⟨a, b, c, d⟩ 24 25 ⟨ha, hb, hc, hd⟩
  have o2 := unhalf_ok _ 16 20 o1
  subst hq
  show Calls _ _ _ _ fun e w' => e = .returned (.tuple #[.int .u32 ((unhalf (unhalf ⟨a, b, c, d⟩ 24 25) 16 20).a : Int), .int .u32 ((unhalf (unhalf ⟨a, b, c, d⟩ 24 25) 16 20).b : Int), .int .u32 ((unhalf (unhalf ⟨a, b, c, d⟩ 24 25) 16 20).c : Int), .int .u32 ((unhalf (unhalf ⟨a, b, c, d⟩ 24 25) 16 20).d : Int)]) ∧ _
  have e1 : unhalf ⟨a, b, c, d⟩ 24 25 = ⟨sub32 a (turnN b 25 ^^^ c), turnN b 25 ^^^ c, sub32 c d, turnN d 24 ^^^ a⟩ := rfl
  generalize unhalf ⟨a, b, c, d⟩ 24 25 = q at *
  obtain ⟨a1, b1, c1, d1⟩ := q
  simp only [Q4.mk.injEq] at e1
  obtain ⟨e1, e2, e3, e4⟩ := e1
  obtain ⟨ha1, hb1, hc1, hd1⟩ := o1
  obtain ⟨ha2, hb2, hc2, hd2⟩ := o2
  rw [← e2] at e1
  simp only [unhalf] at *
  refine undo_core a b c d a1 d1 c1 b1 _ _ _ _ (turnN b 25) (turnN d 24) (turnN b1 20) (turnN d1 16) ?_ ?_ ?_ ?_ (u32_xor_nat _ _ (turnN_lt _ _ hb1) hc1) (sub32_int _ _ hd1) (u32_xor_nat _ _ (turnN_lt _ _ hd1) ha1) (sub32_int _ _ hb2) ?_ ?_ ?_ ?_ w
  · rw [u32_xor_nat _ _ (turnN_lt _ _ hb) hc, ← e2]
  · rw [sub32_int _ _ hd, ← e3]
  · rw [u32_xor_nat _ _ (turnN_lt _ _ hd) ha, ← e4]
  · rw [sub32_int _ _ hb1, ← e1]
  · exact fun w => turn_at _ _ (-7) 25 (by decide) w hb rfl
  · exact fun w => turn_at _ _ (-8) 24 (by decide) w hd rfl
  · exact fun w => turn_at _ _ (-12) 20 (by decide) w hb1 rfl
  · exact fun w => turn_at _ _ (-16) 16 (by decide) w hd1 rfl

end Go.Proofs.Ytdniigefmlmcdab
