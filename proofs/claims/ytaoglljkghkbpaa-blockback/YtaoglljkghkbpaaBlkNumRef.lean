/- The document's numbers in bytes: contracts of the verifier's functions Number and Value. -/
import Derived.Test.YtaoglljkghkbpaaBlkRefText
import Derived.Test.YtaoglljkghkbpaaBlkNum
import Derived.Handy
namespace Go.Proofs.Ytaoglljkghkbpaa
open Go.RowKit
set_option linter.unusedSimpArgs false
set_option linter.unusedVariables false

set_option maxRecDepth 100000 in
set_option maxHeartbeats 4000000 in
theorem refNumber_any (x n : Nat) (hx : x < 18446744073709551616) (hn : n ≤ 8) (hn0 : 0 < n) (w : World) :
    Calls Try.prog 20 #[.int .u64 (x : Int), .int .i64 (n : Int)] w fun e w' => e = .returned (.string (strN (dig x) n)) ∧ Below w.heap.size w w' := by
  obtain ⟨i0, hi, hz0, hz1, hz2⟩ := info_parts infoU8k
  have b1 := Blk.new w 5 #[]
  have hb := below_new1 w (Obj.cells #[] 5)
  go_enter Try.func20, Try.ntmps20
  go_wp2_with fail
  generalize w.alloc (Obj.cells #[] 5) = W at *
  go_loopw [0, 5, 6] (fun m v i wr => ∃ k g cap : Nat, k ≤ n ∧ m = .int .u64 ((x / 256 ^ k : Nat) : Int) ∧ i = .int .i64 k ∧ v = .slice (some ⟨g, 0, none⟩) k cap ∧ wr.ownsRow w.heap.size 5 1 v k (byL (dig x) k) ∧ Below w.heap.size w wr) (fun _ _ i _ => n - (intOf i).toNat)
  case atStart => exact ⟨0, w.heap.size, 0, by omega, by simp, rfl, rfl, kown_empty b1 (Nat.le_refl _), hb⟩
  case round =>
    clear b1 hb
    obtain ⟨k, g, cap, hk, rfl, rfl, rfl, hown, hb⟩ := hrel
    have hv := hown.lt
    have hsz := hb.size
    by_cases hlt : k < n
    · have hqn : x / 256 ^ k ≤ x := Nat.div_le_self _ _
      have HQ : Hid (x / 256 ^ (k + 1) = x / 256 ^ k / 256) := by
        show _ = _
        rw [Nat.pow_succ, Nat.div_div_eq_div_mul]
      have HZ : Hid (byL (dig x) (k + 1) = byL (dig x) k ++ [Value.int .u8 ((x / 256 ^ k % 256 : Nat) : Int)]) := byL_succ (dig x) k
      generalize x / 256 ^ k = q at *
      generalize byL (dig x) k = L at *
      have k1 : (k : Int) < (n : Int) := by omega
      go_wp2_with (first
        | (at_builtin; refine wpList_append_own _ rfl _ _ 78 rfl w.heap.size 5 i0 (.int .u8 0) 1 1 Try.underlying78 hi hz0 hz1 hz2 rfl (by decide) _ _ _ rfl (hown.alloc _) ⟨wr.heap.size, 0, none⟩ 1 1 [.int .u8 ((q : Int) % 256)] rfl rfl (cell_one_new _ _ _) (fun x hx => by simp at hx; subst hx; rfl) (by unfold maxLen; omega) (by omega) (by simp; omega) ?_)
        | go_in)
      intro v' w2 hown' hgrow _
      have hb2 : Below w.heap.size w w2 := (hb.alloc hsz _).grown hgrow (by simp; omega) (fun k hk => (hv k hk).1)
      have hown2 : w2.ownsRow w.heap.size 5 1 v' (k + 1) (byL (dig x) (k + 1)) := by
        rw [HZ.out]
        simpa using hown'
      obtain ⟨g3, cap3, rfl, hg3, hg3'⟩ := kown_form hown2 (Nat.succ_pos k)
      clear hown hv hgrow hb hown'
      go_wp2_with fail
      go_roundw
      case rel => exact ⟨k + 1, g3, cap3, by omega, by rw [HQ.out]; simp, by simp, rfl, hown2, hb2⟩
      case measure => simp [intOf]; omega
    · obtain rfl : k = n := by omega
      have hc := run_own_text (P := Try.prog) wr 78 5 9 Try.underlying78 Try.underlying5 Try.underlying9 hown
      go_wp2_with fail
      go_ret
      exact ⟨rfl, hb⟩

/-- the number of c bytes from place o on, the lowest first -/
def hornN (g : Nat → Nat) : Nat → Nat → Nat
  | _, 0 => 0
  | o, c + 1 => g o + 256 * hornN g (o + 1) c
theorem hornN_lt (g : Nat → Nat) (hg : ∀ i, g i < 256) : ∀ c o, hornN g o c < 256 ^ c
  | 0, _ => by simp [hornN]
  | c + 1, o => by
    have := hornN_lt g hg c (o + 1)
    have h2 := hg o
    unfold hornN
    rw [Nat.pow_succ]
    omega
theorem hornN_congr {g g' : Nat → Nat} : ∀ c o o', (∀ i, i < c → g (o + i) = g' (o' + i)) → hornN g o c = hornN g' o' c
  | 0, _, _, _ => rfl
  | c + 1, o, o', h => by
    unfold hornN
    have h0 := h 0 (by omega)
    rw [Nat.add_zero, Nat.add_zero] at h0
    rw [h0, hornN_congr c (o + 1) (o' + 1) fun i hi => by
      have := h (i + 1) (by omega)
      rw [show o + 1 + i = o + (i + 1) by omega, show o' + 1 + i = o' + (i + 1) by omega]
      exact this]
theorem horn4 (f : Nat → Nat) (o : Nat) : hornN f o 4 = le4f f o := by
  unfold le4f le4
  simp [hornN, Nat.add_assoc]
  omega
theorem horn8 (f : Nat → Nat) (o : Nat) : hornN f o 8 = le8f f o := by
  unfold le8f le8
  simp [hornN, Nat.add_assoc]
  omega

set_option maxRecDepth 100000 in
set_option maxHeartbeats 4000000 in
theorem refValue_any (s : ByteArray) (n : Nat) (hs : s.size = n) (hn : n ≤ 8) (w : World) :
    Calls Try.prog 23 #[.string s] w fun e w' => e = .returned (.int .u64 (hornN (tbyte s) 0 n : Int)) ∧ w' = w := by
  go_enter Try.func23, Try.ntmps23
  go_wp2_with fail
  go_loopw [3, 4] (fun x i wr => ∃ c : Nat, c ≤ n ∧ i = .int .i64 ((n : Int) - 1 - (c : Int)) ∧ x = .int .u64 (hornN (tbyte s) (n - c) c : Int) ∧ wr = w) (fun _ i _ => (intOf i + 1).toNat)
  case atStart => exact ⟨0, by omega, by simp, rfl, rfl⟩
  case round =>
    obtain ⟨c, hc, rfl, rfl, rfl⟩ := hrel
    by_cases hlt : c < n
    · obtain ⟨q, hq⟩ : ∃ q : Nat, q = n - 1 - c := ⟨_, rfl⟩
      have e1 : (n : Int) - 1 - (c : Int) = (q : Int) := by omega
      have hb := hornN_lt (tbyte s) (tbyte_lt s) c (n - c)
      have hp : 256 ^ c ≤ 256 ^ 7 := Nat.pow_le_pow_right (by decide) (by omega)
      have hb2 : hornN (tbyte s) (n - c) c < 72057594037927936 := Nat.lt_of_lt_of_le hb hp
      have HH : Hid (hornN (tbyte s) (n - (c + 1)) (c + 1) = tbyte s q + 256 * hornN (tbyte s) (n - c) c) := by
        show _ = _
        rw [show n - (c + 1) = q by omega, show n - c = q + 1 by omega]
        rfl
      have HQ : Hid (q = n - 1 - c) := hq
      generalize hornN (tbyte s) (n - c) c = v at *
      rw [e1]
      have hqs : q < s.size := by omega
      have hx := text_index s q hqs
      have hx2 := tbyte_lt s q
      have q0 : (0 : Int) ≤ (q : Int) := by omega
      have q1 : (q : Int) < (n : Int) := by omega
      have e3 : (256 : Int) * (v : Int) % 18446744073709551616 = 256 * (v : Int) := by omega
      have e4 : (256 * (v : Int) + ((tbyte s q : Nat) : Int)) % 18446744073709551616 = 256 * (v : Int) + ((tbyte s q : Nat) : Int) := by omega
      clear hb hp hq e1
      go_wp2_with fail
      have hq := HQ.out
      refine ⟨⟨c + 1, by omega, ?_, ?_, trivial⟩, ?_⟩
      · congr 1
        omega
      · rw [HH.out]
        congr 1
        omega
      · simp [intOf]
    · obtain rfl : c = n := by omega
      have e1 : (c : Int) - 1 - (c : Int) = -1 := by omega
      rw [e1, Nat.sub_self]
      go_wp2_with fail
      go_ret
      exact ⟨rfl, rfl⟩
end Go.Proofs.Ytaoglljkghkbpaa
