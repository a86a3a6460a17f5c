/- Digests in plain numbers: the first chain, a piece pressed into a chain, a text's end, pieces taken in turn; no program in it. No conditions beyond those that each fact states. -/
import Derived.Test.YtaoglljkghkbpaaMathState
import Derived.Test.YtaoglljkghkbpaaMathBytes
import Derived.Test.YtaoglljkghkbpaaRowf
namespace Go.Proofs.Ytaoglljkghkbpaa

def dig (x i : Nat) : Nat := x / 256 ^ i % 256
theorem dig_lt (x i : Nat) : dig x i < 256 := Nat.mod_lt _ (by decide)
/-- four bytes from a place on, as a number -/
def le4f (f : Nat → Nat) (o : Nat) : Nat := le4 (f o) (f (o + 1)) (f (o + 2)) (f (o + 3))
theorem le4f_lt (f : Nat → Nat) (o : Nat) (h : ∀ i, i < 4 → f (o + i) < 256) : le4f f o < 4294967296 := by
  have h0 := h 0 (by decide)
  have h1 := h 1 (by decide)
  have h2 := h 2 (by decide)
  have h3 := h 3 (by decide)
  unfold le4f le4
  simp only [Nat.add_zero] at h0
  omega
def St.of (f : Nat → Nat) : St := ⟨f 0, f 1, f 2, f 3, f 4, f 5, f 6, f 7, f 8, f 9, f 10, f 11, f 12, f 13, f 14, f 15⟩
theorem stA_of (f : Nat → Nat) : stA (St.of f) = va 16 (iv .u32 f) := rfl
theorem stA_va (s : St) : stA s = va 16 (iv .u32 s.at) := va_ext (stA_size s) fun i hi => stA_at s i hi
theorem St.of_ok (f : Nat → Nat) (h : ∀ i, i < 16 → f i < 4294967296) : (St.of f).ok :=
  ⟨h 0 (by decide), h 1 (by decide), h 2 (by decide), h 3 (by decide), h 4 (by decide), h 5 (by decide), h 6 (by decide), h 7 (by decide), h 8 (by decide), h 9 (by decide), h 10 (by decide), h 11 (by decide), h 12 (by decide), h 13 (by decide), h 14 (by decide), h 15 (by decide)⟩
theorem St.of_congr {f g : Nat → Nat} (h : ∀ i, i < 16 → f i = g i) : St.of f = St.of g := by
  unfold St.of
  rw [h 0 (by decide), h 1 (by decide), h 2 (by decide), h 3 (by decide), h 4 (by decide), h 5 (by decide), h 6 (by decide), h 7 (by decide), h 8 (by decide), h 9 (by decide), h 10 (by decide), h 11 (by decide), h 12 (by decide), h 13 (by decide), h 14 (by decide), h 15 (by decide)]
/-- the chain and the piece side by side -/
def sideN (c p : Nat → Nat) : Nat → Nat := fun i => if i < 8 then c i else le4f p (4 * (i - 8))
def mixedN (c p : Nat → Nat) : St := fwd (St.of (sideN c p)) 6
def pressN (c p : Nat → Nat) : Nat → Nat := fun i => c i ^^^ ((mixedN c p).at i ^^^ (mixedN c p).at (i + 8))
def okC (c : Nat → Nat) : Prop := ∀ i, i < 8 → c i < 4294967296
def okP (p : Nat → Nat) : Prop := ∀ i, i < 32 → p i < 256
theorem side_lt {c p : Nat → Nat} (hc : okC c) (hp : okP p) (i : Nat) (hi : i < 16) : sideN c p i < 4294967296 := by
  unfold sideN
  split
  · exact hc i (by omega)
  · exact le4f_lt p _ fun k hk => hp _ (by omega)
theorem mixed_ok {c p : Nat → Nat} (hc : okC c) (hp : okP p) : (mixedN c p).ok := fwd_ok _ (St.of_ok _ (side_lt hc hp)) _
theorem xlt32 {a b : Nat} (ha : a < 4294967296) (hb : b < 4294967296) : a ^^^ b < 4294967296 := Nat.xor_lt_two_pow (n := 32) ha hb
theorem press_ok {c p : Nat → Nat} (hc : okC c) (hp : okP p) : okC (pressN c p) := fun i hi =>
  xlt32 (hc i hi) (xlt32 ((mixedN c p).at_lt (mixed_ok hc hp) _) ((mixedN c p).at_lt (mixed_ok hc hp) _))
theorem le4f_congr {p q : Nat → Nat} (o : Nat) (h : ∀ i, i < 4 → p (o + i) = q (o + i)) : le4f p o = le4f q o := by
  have h0 := h 0 (by decide)
  simp only [Nat.add_zero] at h0
  unfold le4f
  rw [h0, h 1 (by decide), h 2 (by decide), h 3 (by decide)]
theorem press_congr {c d p q : Nat → Nat} (hc : ∀ i, i < 8 → c i = d i) (hp : ∀ i, i < 32 → p i = q i) : ∀ i, i < 8 → pressN c p i = pressN d q i := fun i hi => by
  have e : St.of (sideN c p) = St.of (sideN d q) := St.of_congr fun k hk => by
    unfold sideN
    split
    · exact hc k (by omega)
    · exact le4f_congr _ fun j hj => hp _ (by omega)
  unfold pressN mixedN
  rw [e, hc i hi]
/-- the first chain -/
def firstN (tag i : Nat) : Nat := 2654435769 * (i + 1) % 4294967296 ^^^ tag * 16777216
theorem first_ok (tag : Nat) (h : tag < 256) : okC (firstN tag) := fun i _ => xlt32 (Nat.mod_lt _ (by decide)) (by omega)
/-- n pieces of a text taken in turn; the text told by a function of the place -/
def runN (c : Nat → Nat) (t : Nat → Nat) : Nat → Nat → Nat
  | 0 => c
  | n + 1 => pressN (runN c t n) fun j => t (32 * n + j)
theorem run_ok {c t : Nat → Nat} (hc : okC c) (ht : ∀ i, t i < 256) : ∀ n, okC (runN c t n)
  | 0 => hc
  | n + 1 => press_ok (run_ok hc ht n) fun _ _ => ht _
theorem run_congr {c d t u : Nat → Nat} (hc : ∀ i, i < 8 → c i = d i) : ∀ n, (∀ i, i < 32 * n → t i = u i) → ∀ i, i < 8 → runN c t n i = runN d u n i
  | 0, _ => hc
  | n + 1, h => press_congr (run_congr hc n fun i hi => h i (by omega)) fun j hj => h _ (by omega)
theorem run_add (c t : Nat → Nat) (n : Nat) : ∀ m, runN c t (n + m) = runN (runN c t n) (fun j => t (32 * n + j)) m
  | 0 => rfl
  | m + 1 => by
    show pressN (runN c t (n + m)) _ = pressN (runN (runN c t n) _ m) _
    rw [run_add c t n m]
    congr 1
    funext j
    show t (32 * (n + m) + j) = t (32 * n + (32 * m + j))
    rw [show 32 * (n + m) + j = 32 * n + (32 * m + j) from by omega]
/-- a text with its end behind it: s tells its bytes, n its length -/
def padLen (n : Nat) : Nat := 32 * ((n + 8) / 32 + 1)
def padN (s : Nat → Nat) (n : Nat) : Nat → Nat := fun i =>
  if i < n then s i else if i = n then 128 else if i < padLen n - 8 then 0 else dig n (i - (padLen n - 8))
theorem padLen_ge (n : Nat) : n + 9 ≤ padLen n := by unfold padLen; omega
theorem padLen_lt (n : Nat) : padLen n < n + 41 := by unfold padLen; omega
theorem pad_lt (s : Nat → Nat) (n : Nat) (h : ∀ i, s i < 256) (i : Nat) : padN s n i < 256 := by
  unfold padN
  split
  · exact h i
  · split
    · decide
    · split
      · decide
      · exact dig_lt _ _
/-- the digest: its bytes -/
def chainN (tag : Nat) (s : Nat → Nat) (n : Nat) : Nat → Nat := runN (firstN tag) (padN s n) ((n + 8) / 32 + 1)
def sumN (c : Nat → Nat) : Nat → Nat := fun i => dig (c (i / 4)) (i % 4)
def ofN (tag : Nat) (s : Nat → Nat) (n : Nat) : Nat → Nat := sumN (chainN tag s n)
theorem sum_lt (c : Nat → Nat) (i : Nat) : sumN c i < 256 := dig_lt _ _
theorem sum_congr {c d : Nat → Nat} (h : ∀ i, i < 8 → c i = d i) : ∀ i, i < 32 → sumN c i = sumN d i := fun i hi => by
  unfold sumN
  rw [h (i / 4) (by omega)]
/-- whole pieces first, then what is left with its end -/
theorem pad_split (s : Nat → Nat) (n : Nat) (j : Nat) : padN s n (32 * (n / 32) + j) = if j < n % 32 then s (32 * (n / 32) + j) else if j = n % 32 then 128 else if j < padLen (n % 32) - 8 then 0 else dig n (j - (padLen (n % 32) - 8)) := by
  have e : padLen n = 32 * (n / 32) + padLen (n % 32) := by unfold padLen; omega
  have g := padLen_ge (n % 32)
  unfold padN
  rw [e]
  by_cases h1 : j < n % 32
  · rw [if_pos (by omega), if_pos h1]
  · rw [if_neg (by omega), if_neg h1]
    by_cases h2 : j = n % 32
    · rw [if_pos (by omega), if_pos h2]
    · rw [if_neg (by omega), if_neg h2]
      by_cases h3 : j < padLen (n % 32) - 8
      · rw [if_pos (by omega), if_pos h3]
      · rw [if_neg (by omega), if_neg h3]
        congr 1
        omega
theorem chain_split (tag : Nat) (s : Nat → Nat) (n : Nat) : chainN tag s n = runN (runN (firstN tag) (padN s n) (n / 32)) (fun j => padN s n (32 * (n / 32) + j)) ((n % 32 + 8) / 32 + 1) := by
  unfold chainN
  rw [← run_add]
  congr 1
  omega
end Go.Proofs.Ytaoglljkghkbpaa
