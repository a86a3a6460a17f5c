/- The end of a text, with all that stands behind it: the program's contract. -/
import Derived.Test.YtaoglljkghkbpaaDigFirst
import Derived.Test.YtaoglljkghkbpaaSplice
import Derived.ArgAppend
import Derived.Deep.RegionHeld
import Derived.Handy
namespace Go.Proofs.Ytaoglljkghkbpaa
open Go.RowKit
set_option linter.unusedSimpArgs false
set_option linter.unusedVariables false

/-- the bytes up to place m -/
def zeroN (s : Nat → Nat) (n : Nat) : Nat → Nat := fun j => if j < n then s j else if j = n then 128 else 0
def endN (s : Nat → Nat) (n many : Nat) : Nat → Nat := fun j => if j < n then s j else if j = n then 128 else if j < padLen n - 8 then 0 else dig many (j - (padLen n - 8))
def bytesL (f : Nat → Nat) (m : Nat) : List Value := (List.range m).map fun j => Value.int .u8 ((f j : Nat) : Int)
theorem bytesL_succ (f : Nat → Nat) (m : Nat) : bytesL f (m + 1) = bytesL f m ++ [Value.int .u8 ((f m : Nat) : Int)] := by simp [bytesL, List.range_succ]
theorem bytesL_length (f : Nat → Nat) (m : Nat) : (bytesL f m).length = m := by simp [bytesL]
theorem bytesL_at (f : Nat → Nat) (m j : Nat) (h : j < m) : (bytesL f m)[j]? = some (.int .u8 ((f j : Nat) : Int)) := by simp [bytesL, h]
theorem bytesL_congr {f g : Nat → Nat} {m : Nat} (h : ∀ j, j < m → f j = g j) : bytesL f m = bytesL g m := List.map_congr_left fun j hj => by rw [h j (List.mem_range.1 hj)]
theorem bytesL_add (f : Nat → Nat) (m : Nat) : ∀ k, bytesL f (m + k) = bytesL f m ++ bytesL (fun j => f (m + j)) k
  | 0 => by simp [bytesL]
  | k + 1 => by rw [← Nat.add_assoc, bytesL_succ, bytesL_add f m k, bytesL_succ, List.append_assoc]

theorem own_mono {w : World} {B B' e size n : Nat} {v : Value} {xs : List Value} (h : w.ownsRow B e size v n xs) (hB : B' ≤ B) : w.ownsRow B' e size v n xs :=
  ⟨h.1, h.2.imp id fun ⟨g, cap, cur, a, b, r⟩ => ⟨g, cap, cur, a, Nat.le_trans hB b, r⟩⟩
theorem own_form {w : World} {B e size n : Nat} {v : Value} {xs : List Value} (h : w.ownsRow B e size v n xs) (hn : 0 < n) : ∃ g cap, v = .slice (some ⟨g, 0, none⟩) n cap ∧ B ≤ g ∧ g < w.heap.size := by
  rcases h.2 with ⟨_, h0⟩ | ⟨g, cap, cur, rfl, hb, hg, _⟩
  · omega
  · exact ⟨g, cap, rfl, hb, (Array.getElem?_eq_some_iff.1 hg).1⟩
theorem zero_first (s : Nat → Nat) (n : Nat) : bytesL s n ++ [Value.int .u8 128] = bytesL (zeroN s n) (n + 1) := by
  rw [bytesL_succ, bytesL_congr (f := zeroN s n) (g := s) (fun j hj => if_pos hj)]
  have : zeroN s n n = 128 := by unfold zeroN; rw [if_neg (by omega), if_pos rfl]
  rw [this]
  rfl
theorem zero_step (s : Nat → Nat) (n m : Nat) (h : n < m) : bytesL (zeroN s n) (m + 1) = bytesL (zeroN s n) m ++ [Value.int .u8 0] := by
  rw [bytesL_succ]
  have : zeroN s n m = 0 := by unfold zeroN; rw [if_neg (by omega), if_neg (by omega)]
  rw [this]
  rfl
theorem end_last (s : Nat → Nat) (n many : Nat) : bytesL (zeroN s n) (padLen n - 8) ++ bytesL (dig many) 8 = bytesL (endN s n many) (padLen n) := by
  have g := padLen_ge n
  have e : bytesL (endN s n many) (padLen n) = bytesL (endN s n many) (padLen n - 8 + 8) := by rw [show padLen n - 8 + 8 = padLen n from by omega]
  rw [e, bytesL_add]
  congr 1
  · refine bytesL_congr fun j hj => ?_
    unfold zeroN endN
    by_cases h1 : j < n
    · rw [if_pos h1, if_pos h1]
    · rw [if_neg h1, if_neg h1]
      by_cases h2 : j = n
      · rw [if_pos h2, if_pos h2]
      · rw [if_neg h2, if_neg h2, if_pos hj]
  · refine bytesL_congr fun j hj => ?_
    unfold endN
    rw [if_neg (by omega), if_neg (by omega), if_neg (by omega), show padLen n - 8 + j - (padLen n - 8) = j from by omega]
theorem ownBelow {w w' : World} {B e size n : Nat} {v : Value} {xs : List Value} (h : w.ownsRow B e size v n xs) (hb : Below w.heap.size w w') : w'.ownsRow B e size v n xs := by
  refine ⟨h.1, ?_⟩
  rcases h.2 with hn | ⟨g, cap, cur, rfl, hg, hgg, rest⟩
  · exact .inl hn
  · exact .inr ⟨g, cap, cur, rfl, hg, (hb.block g (Array.getElem?_eq_some_iff.1 hgg).1).trans hgg, rest⟩
theorem ownSetRow {w : World} {B e size n g2 cap g : Nat} {xs : List Value} (h : w.ownsRow B e size (.slice (some ⟨g2, 0, none⟩) n cap) n xs) (hne : g2 ≠ g) (cs : Array Value) : (w.setRow g cs).ownsRow B e size (.slice (some ⟨g2, 0, none⟩) n cap) n xs := by
  refine ⟨h.1, ?_⟩
  rcases h.2 with ⟨hn, _⟩ | ⟨g', cap', cur, hv, hg, hgg, rest⟩
  · cases hn
  · refine .inr ⟨g', cap', cur, hv, hg, ?_, rest⟩
    have : g2 = g' := by injection hv with hv; injection hv with hv; injection hv
    subst this
    rw [setRow_other w g g2 cs hne]
    exact hgg
theorem size8 : (Try.prog.info? 82).map (·.size) = some 8 := by kernel_rfl

set_option maxRecDepth 100000 in
set_option maxHeartbeats 4000000 in
theorem padded_any (g off n many : Nat) (s : Nat → Nat) (hn : n ≤ 31) (hm : many < 9223372036854775808) (w : World) (hs : ∀ j, j < n → w.cell? ⟨g, off + j, none⟩ = some (.int .u8 ((s j : Nat) : Int))) :
    Calls Try.prog 50 #[.slice (some ⟨g, off, none⟩) n n, .int .i64 (many : Int)] w fun e w' => ∃ v, e = .returned v ∧ w'.ownsRow w.heap.size 5 1 v (padLen n) (bytesL (endN s n many) (padLen n)) ∧ Below w.heap.size w w' := by
  have HM : Hid (many < 9223372036854775808) := hm
  clear hm
  obtain ⟨i0, hi, hz0, hz1, hz2⟩ := info_parts infoU8
  go_enter Try.func50, Try.ntmps50
  have HO : Hid (∀ o : Obj, ∀ b, (some ⟨g, off, none⟩ : Option Addr) = some b → ∀ j u, (bytesL s n)[j]? = some u → (w.alloc o).cell? (b.add j) = some u) := fun o b hb j u hu => by
    obtain rfl := Option.some.inj hb
    have hj : j < n := by
      have := (List.getElem?_eq_some_iff.1 hu).1
      rwa [bytesL_length] at this
    rw [Addr.add_mid, World.cell?_alloc_some w _ o (by rw [hs j hj]; rfl), hs j hj, ← hu, bytesL_at s n j hj]
  have HS := hs
  clear hs HS
  go_wp2_with (first
    | (at_builtin; refine wpList_append_grows _ rfl _ _ 78 rfl 5 i0 (.int .u8 0) 1 1 Try.underlying78 hi hz0 hz1 hz2 rfl (by decide) (some ⟨g, off, none⟩) n n (bytesL s n) rfl (fun h => nomatch h) (by rw [bytesL_length]; omega) (HO.out _) ⟨w.heap.size, 0, none⟩ 1 1 [.int .u8 128] rfl rfl (cell_one_new _ _ _) (fun x hx => by simp at hx; subst hx; rfl) (by omega) (by unfold maxLen; omega) (by omega) ?_)
    | go_in)
  intro v1 w1 hown1 hgrow1
  have hb1 : Below w.heap.size w w1 := ((Below.refl _ _).alloc (Nat.le_refl _) _).grown hgrow1 (by simp) (fun k hk => nomatch hk)
  have hown := own_mono hown1 (Nat.le_succ w.heap.size)
  rw [zero_first] at hown
  clear hown1 hgrow1 HO
  obtain ⟨g1, cap1, rfl, hg1, hg1'⟩ := own_form hown (Nat.succ_pos n)
  have pg := padLen_ge n
  have pl : padLen n = 32 * ((n + 8) / 32 + 1) := rfl
  go_wp2_with fail
  go_loopw [5] (fun v wr => ∃ m g2 cap2 : Nat, n + 1 ≤ m ∧ m ≤ padLen n - 8 ∧ v = .slice (some ⟨g2, 0, none⟩) m cap2 ∧ wr.ownsRow w.heap.size 5 1 v m (bytesL (zeroN s n) m) ∧ Below w.heap.size w wr) (fun v _ => padLen n - 8 - (match v with | .slice _ k _ => k | _ => 0))
  case atStart => exact ⟨n + 1, g1, cap1, Nat.le_refl _, by omega, rfl, hown, hb1⟩
  case round =>
    clear hown hb1
    obtain ⟨m, g2, cap2, hm1, hm2, rfl, hown, hb⟩ := hrel
    have hv := hown.lt
    by_cases hlt : m < padLen n - 8
    · have t1 : ¬ ((m : Int) % 32 = 24) := by omega
      have hmm : m < 64 := by omega
      have HZ : Hid (bytesL (zeroN s n) (m + 1) = bytesL (zeroN s n) m ++ [Value.int .u8 0]) := zero_step s n m (by omega)
      generalize bytesL (zeroN s n) m = L at *
      clear pl
      go_wp2_with (first
        | (at_builtin; refine wpList_append_own _ rfl _ _ 78 rfl w.heap.size 5 i0 (.int .u8 0) 1 1 Try.underlying78 hi hz0 hz1 hz2 rfl (by decide) _ _ _ rfl (hown.alloc _) ⟨wr.heap.size, 0, none⟩ 1 1 [.int .u8 0] rfl rfl (cell_one_new _ _ _) (fun x hx => by simp at hx; subst hx; rfl) (by unfold maxLen; omega) (by omega) (by have := hb.size; simp; omega) ?_)
        | go_in)
      intro v' w2 hown' hgrow _
      have hb2 : Below w.heap.size w w2 := (hb.alloc (by have := hb.size; omega) _).grown hgrow (by have := hb.size; simp; omega) (fun k hk => (hv k hk).1)
      rw [← HZ.out] at hown'
      obtain ⟨g3, cap3, rfl, hg3, hg3'⟩ := own_form hown' (Nat.succ_pos m)
      clear hown hv hgrow hb
      go_wp2_with fail
      go_roundw
      case rel => exact ⟨m + 1, g3, cap3, by omega, by omega, rfl, hown', hb2⟩
      case measure => simp; omega
    · obtain rfl : m = padLen n - 8 := by omega
      have t1 : ((padLen n - 8 : Nat) : Int) % 32 = 24 := by omega
      have hB : Hid (∀ w : World, Calls Try.prog 40 #[.int .u64 (many : Int)] w fun e w' => e = .returned (.agg (va 8 (iv .u8 (dig many)))) ∧ Below w.heap.size w w') := fun w => bytes64_va many w
      have HE : Hid (bytesL (zeroN s n) (padLen n - 8) ++ bytesL (dig many) 8 = bytesL (endN s n many) (padLen n)) := end_last s n many
      have HP : Hid (padLen n - 8 + 8 = padLen n) := by show _ = _; omega
      have hpl : padLen n - 8 ≤ 64 := by have := padLen_lt n; omega
      generalize bytesL (zeroN s n) (padLen n - 8) = L at *
      generalize padLen n - 8 = m at *
      clear pl pg
      have hmu : (many : Int) % 18446744073709551616 = (many : Int) := by have := HM.out; omega
      go_wp2_with fail
      refine (hB.out _).mono ?_
      rintro e w2 ⟨rfl, hb2⟩
      have hown2 : w2.ownsRow w.heap.size 5 1 (.slice (some ⟨g2, 0, none⟩) m cap2) m L := ownBelow hown hb2
      have hb' : Below w.heap.size w w2 := hb.trans (hb2.mono hb.size)
      have hg2l : g2 < w2.heap.size := (hown2.lt g2 rfl).2
      clear hown hb hb2 hB hv hmu
      have n0 : Blk (w2.alloc (.cells #[.int .u8 0, .int .u8 0, .int .u8 0, .int .u8 0, .int .u8 0, .int .u8 0, .int .u8 0, .int .u8 0] 82)) w2.heap.size 82 (va 8 (iv .u8 fun _ => 0)) := Blk.new _ _ _
      have A1 : Hid (((w2.alloc (.cells #[.int .u8 0, .int .u8 0, .int .u8 0, .int .u8 0, .int .u8 0, .int .u8 0, .int .u8 0, .int .u8 0] 82)).setRow w2.heap.size (va 8 (iv .u8 (dig many)))).ownsRow w.heap.size 5 1 (.slice (some ⟨g2, 0, none⟩) m cap2) m L) := ownSetRow (hown2.alloc _) (by omega) _
      have A2 : Hid (∀ j u, (bytesL (dig many) 8)[j]? = some u → ((w2.alloc (.cells #[.int .u8 0, .int .u8 0, .int .u8 0, .int .u8 0, .int .u8 0, .int .u8 0, .int .u8 0, .int .u8 0] 82)).setRow w2.heap.size (va 8 (iv .u8 (dig many)))).cell? ((⟨w2.heap.size, 0, none⟩ : Addr).add j) = some u) := fun j u hu => by
        have := (n0.set (va 8 (iv .u8 (dig many)))).range 0 8 (Nat.le_refl _) j u (by rw [← hu]; simp [bytesL, iv])
        rw [Addr.add_mid]
        exact this
      have A3 : Hid (Below w.heap.size w ((w2.alloc (.cells #[.int .u8 0, .int .u8 0, .int .u8 0, .int .u8 0, .int .u8 0, .int .u8 0, .int .u8 0, .int .u8 0] 82)).setRow w2.heap.size (va 8 (iv .u8 (dig many))))) := below_setRow (hb'.alloc hb'.size _) hb'.size _
      have A4 : Hid (w.heap.size ≤ ((w2.alloc (.cells #[.int .u8 0, .int .u8 0, .int .u8 0, .int .u8 0, .int .u8 0, .int .u8 0, .int .u8 0, .int .u8 0] 82)).setRow w2.heap.size (va 8 (iv .u8 (dig many)))).heap.size) := A3.out.size
      have A5 := hown2.lt
      clear hown2 hb'
      go_wp2_with (first
        | (refine wpList_store_row (by rfl) 82 _ _ (by rfl) w2.heap.size (va 8 (iv .u8 (dig many))) (by rfl) (by rfl) 82 _ n0 (size8.trans (by rw [va_size])) (by rw [va_size, va_size]) (iv_one _ _ _) ?_; simp only [Act.put, List.setIfInBounds_toArray, List.set_cons_zero, List.set_cons_succ])
        | (at_builtin; refine wpList_append_own _ rfl _ _ 78 rfl w.heap.size 5 i0 (.int .u8 0) 1 1 Try.underlying78 hi hz0 hz1 hz2 rfl (by decide) _ _ _ rfl A1.out ⟨w2.heap.size, 0, none⟩ 8 8 (bytesL (dig many) 8) rfl (by rw [bytesL_length]) A2.out (mem_iv_one _ _ _) (by unfold maxLen; omega) (by omega) A4.out ?_)
        | go_in)
      intro v3 w3 hown3 hgrow _
      have hb3 : Below w.heap.size w w3 := A3.out.grown hgrow A4.out (fun k hk => (A5 k hk).1)
      rw [HE.out, HP.out] at hown3
      clear A1 A2 A3 A4 A5 hgrow n0
      go_wp2_with fail
      go_ret
      exact ⟨_, rfl, hown3, hb3⟩
end Go.Proofs.Ytaoglljkghkbpaa
