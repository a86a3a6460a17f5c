/- FromLeaf of Leaf is the entries (no program in it but the forms of both). -/
import Derived.Test.YtimjggkdpmgpjaaGreatDoorHBytes
import Derived.Handy
import Derived.Test.YtimjggkdpmgpjaaGreatDoorHNaDecode
import Derived.Test.YtimjggkdpmgpjaaGreatDoorHBlkOwn
import Derived.Maps.AppendAt
import Derived.Test.YtimjggkdpmgpjaaGreatDoorHOrders
import Derived.BigQuiet
import Derived.Deep.QuietTactic

namespace Go.Proofs.YtimjggkdpmgpjaaGreatDoor
open Go.RowKit
set_option linter.unusedSimpArgs false
set_option linter.unusedVariables false

def Fit (a m : Int) : Prop := 0 ≤ a ∧ 0 ≤ m ∧ a ≤ 256 - m
instance (a m : Int) : Decidable (Fit a m) := by unfold Fit; infer_instance

set_option maxRecDepth 100000 in
theorem inside_any (a m : Int) (ha : -9223372036854775808 ≤ a ∧ a ≤ 9223372036854775807) (hm : -9223372036854775808 ≤ m ∧ m ≤ 9223372036854775807) (w : World) :
    Calls Tryz.prog 130 #[.int .i64 a, .int .i64 m] w fun e w' => e = .returned (.bool (decide (Fit a m))) ∧ w' = w := by
  obtain ⟨a1, a2⟩ := ha
  obtain ⟨m1, m2⟩ := hm
  by_cases h1 : 0 ≤ a
  · by_cases h2 : 0 ≤ m
    · by_cases h3 : a ≤ 256 - m
      · have hd : decide (Fit a m) = true := decide_eq_true ⟨h1, h2, h3⟩
        rw [hd]
        clear hd
        go_enter Tryz.func130, Tryz.ntmps130
        go_wp2_with fail
        go_ret
        exact ⟨rfl, rfl⟩
      · have hd : decide (Fit a m) = false := decide_eq_false fun h => h3 h.2.2
        rw [hd]
        clear hd
        go_enter Tryz.func130, Tryz.ntmps130
        go_wp2_with fail
        go_ret
        exact ⟨rfl, rfl⟩
    · have hd : decide (Fit a m) = false := decide_eq_false fun h => h2 h.2.1
      rw [hd]
      clear hd
      go_enter Tryz.func130, Tryz.ntmps130
      go_wp2_with fail
      go_ret
      exact ⟨rfl, rfl⟩
  · have hd : decide (Fit a m) = false := decide_eq_false fun h => h1 h.1
    rw [hd]
    clear hd
    go_enter Tryz.func130, Tryz.ntmps130
    go_wp2_with fail
    go_ret
    exact ⟨rfl, rfl⟩

set_option maxRecDepth 100000 in
set_option maxHeartbeats 4000000 in
theorem lay_fit (f : Nat → Nat) (r : Nat) (s : ByteArray) (h : r + s.size ≤ 256) (w : World) :
    Calls Tryz.prog 113 #[bkV f, .int .i64 (r : Int), .string s] w fun e w' => e = .returned (.tuple #[bkV (putAt f r s.size (tbyte s)), .int .i64 0]) ∧ Below w.heap.size w w' := by
  have hI : Hid (∀ w : World, Calls Tryz.prog 130 #[.int .i64 (r : Int), .int .i64 (s.size : Int)] w fun e w' => e = .returned (.bool true) ∧ w' = w) := fun w => by
    have := inside_any (r : Int) (s.size : Int) (by omega) (by omega) w
    rw [decide_eq_true (show Fit (r : Int) (s.size : Int) from ⟨by omega, by omega, by omega⟩)] at this
    exact this
  have hz := zero_bk
  obtain ⟨F, hF⟩ : ∃ F, F = putAt f r s.size (tbyte s) := ⟨_, rfl⟩
  rw [← hF]
  unfold bkV
  go_enter Tryz.func113, Tryz.ntmps113
  go_wp2_with fail
  refine (hI.out _).mono ?_
  rintro e w1 ⟨rfl, rfl⟩
  have b0 : Blk ((w.alloc (Obj.cells (va 256 (iv IntKind.u8 f)) 207)).alloc (Obj.cells (va 256 (iv IntKind.u8 fun x => 0)) 207)) w.heap.size 207 (va 256 (iv .u8 f)) := (Blk.new _ _ _).alloc _
  have b1 := Blk.new1 w (Obj.cells (va 256 (iv IntKind.u8 f)) 207) 207 (va 256 (iv IntKind.u8 fun x => 0))
  have hb := below_new2 w (Obj.cells (va 256 (iv IntKind.u8 f)) 207) (Obj.cells (va 256 (iv IntKind.u8 fun x => 0)) 207)
  generalize (w.alloc (Obj.cells (va 256 (iv IntKind.u8 f)) 207)).alloc (Obj.cells (va 256 (iv IntKind.u8 fun x => 0)) 207) = W at *
  clear hI hz
  have r0 : (0 : Int) ≤ (r : Int) := by omega
  have r1 : (r : Int) ≤ 256 := by omega
  by_cases hr : 256 = r
  · obtain rfl : r = 256 := hr.symm
    have hs0 : s.size = 0 := by omega
    have hc := run_copy_text (P := Tryz.prog) W 190 9 3 5 w.heap.size 0 0 0 s _ 207 0 Tryz.underlying190 ksizeU8 b0 (by show _ = min _ _; omega) (by rw [va_size]; decide)
    rw [splice_put 256 0 0 f (tbyte s) (by decide)] at hc
    have e0 : va 256 (iv .u8 (putAt f 0 0 (tbyte s))) = va 256 (iv .u8 (putAt f 256 s.size (tbyte s))) := va_congr fun i hi => by
      unfold iv putAt
      rw [if_neg (by omega), if_neg (by omega)]
    rw [e0] at hc
    have b2 := b0.set (va 256 (iv .u8 (putAt f 256 s.size (tbyte s))))
    have b3 := b1.other (g := w.heap.size) (va 256 (iv .u8 (putAt f 256 s.size (tbyte s)))) (by omega)
    have hb2 := below_setRow hb (Nat.le_refl _) (va 256 (iv .u8 (putAt f 256 s.size (tbyte s))))
    generalize W.setRow w.heap.size (va 256 (iv .u8 (putAt f 256 s.size (tbyte s)))) = W2 at *
    rw [← hF] at b2
    clear hF
    clear e0 b0 b1 hb
    go_wp2_with (first
      | (refine wpList_load_row (by rfl) 207 _ (by rfl) (w.heap.size) (by rfl) 207 (va 256 (iv .u8 F)) (0, 0) _ b2 Tryz.underlying207 (by rfl) (sizeBk.trans (by rw [va_size])) ?_; simp only [Act.put, List.setIfInBounds_toArray, List.set_cons_zero, List.set_cons_succ])
      | (refine wpList_store_row (by rfl) 207 _ _ (by rfl) (w.heap.size + 1) (va 256 (iv .u8 F)) (by rfl) (by rfl) 207 _ b3 (sizeBk.trans (by rw [va_size])) (by simp only [va_size]) (iv_one _ _ _) ?_; simp only [Act.put, List.setIfInBounds_toArray, List.set_cons_zero, List.set_cons_succ])
      | fail)
    try simp only [Exit.inBlock, Exit.then]
    refine bodyPost_ret (results_row2 Tryz.results113 _ _ (w.heap.size + 1) 207 (va 256 (iv .u8 F)) (0, 0) _ rfl (b3.set _) Tryz.underlying207 rfl (sizeBk.trans (by rw [va_size]))) rfl ?_
    exact ⟨rfl, below_setRow hb2 (by omega) _⟩
  · have hc := run_copy_text (P := Tryz.prog) W 190 9 3 5 w.heap.size r (256 - r) (256 - r) s _ 207 s.size Tryz.underlying190 ksizeU8 b0 (by show _ = min _ _; omega) (by rw [va_size]; exact h)
    rw [splice_put 256 r s.size f (tbyte s) h] at hc
    have b2 := b0.set (va 256 (iv .u8 (putAt f r s.size (tbyte s))))
    have b3 := b1.other (g := w.heap.size) (va 256 (iv .u8 (putAt f r s.size (tbyte s)))) (by omega)
    have hb2 := below_setRow hb (Nat.le_refl _) (va 256 (iv .u8 (putAt f r s.size (tbyte s))))
    generalize W.setRow w.heap.size (va 256 (iv .u8 (putAt f r s.size (tbyte s)))) = W2 at *
    rw [← hF] at b2
    clear hF
    clear b0 b1 hb
    go_wp2_with (first
      | (refine wpList_load_row (by rfl) 207 _ (by rfl) (w.heap.size) (by rfl) 207 (va 256 (iv .u8 F)) (0, 0) _ b2 Tryz.underlying207 (by rfl) (sizeBk.trans (by rw [va_size])) ?_; simp only [Act.put, List.setIfInBounds_toArray, List.set_cons_zero, List.set_cons_succ])
      | (refine wpList_store_row (by rfl) 207 _ _ (by rfl) (w.heap.size + 1) (va 256 (iv .u8 F)) (by rfl) (by rfl) 207 _ b3 (sizeBk.trans (by rw [va_size])) (by simp only [va_size]) (iv_one _ _ _) ?_; simp only [Act.put, List.setIfInBounds_toArray, List.set_cons_zero, List.set_cons_succ])
      | fail)
    try simp only [Exit.inBlock, Exit.then]
    refine bodyPost_ret (results_row2 Tryz.results113 _ _ (w.heap.size + 1) 207 (va 256 (iv .u8 F)) (0, 0) _ rfl (b3.set _) Tryz.underlying207 rfl (sizeBk.trans (by rw [va_size]))) rfl ?_
    exact ⟨rfl, below_setRow hb2 (by omega) _⟩

end Go.Proofs.YtimjggkdpmgpjaaGreatDoor

namespace Go.Proofs.YtimjggkdpmgpjaaGreatDoor
open Go.RowKit
set_option linter.unusedSimpArgs false
set_option linter.unusedVariables false

set_option maxRecDepth 100000 in
set_option maxHeartbeats 4000000 in
theorem textOf_any (f : Nat → Nat) (w : World) :
    Calls Tryz.prog 128 #[bkV f] w fun e w' => e = .returned (.string (strN f 256)) ∧ Below w.heap.size w w' := by
  unfold bkV
  have b0 := Blk.new w 207 (va 256 (iv .u8 f))
  have hb := below_new1 w (Obj.cells (va 256 (iv IntKind.u8 f)) 207)
  have hc := run_bytes_text (P := Tryz.prog) (w.alloc (Obj.cells (va 256 (iv IntKind.u8 f)) 207)) 190 5 9 Tryz.underlying190 Tryz.underlying5 Tryz.underlying9 b0 0 256 256 (by omega)
  have hx : strN (fun j => f (0 + j)) 256 = strN f 256 := strN_congr fun j _ => by rw [Nat.zero_add]
  rw [hx] at hc
  go_enter Tryz.func128, Tryz.ntmps128
  go_wp2_with fail
  go_ret
  exact ⟨rfl, hb⟩
end Go.Proofs.YtimjggkdpmgpjaaGreatDoor

namespace Go.Proofs.YtimjggkdpmgpjaaGreatDoor
set_option maxRecDepth 20000
open Go Go.RowKit
set_option linter.unusedVariables false
set_option linter.unusedSimpArgs false
/-- entries as cells, one behind the other -/
def lkL (N : Nat → Int) (S : Nat → ByteArray) : Nat → List Value
  | 0 => []
  | n + 1 => lkL N S n ++ [.int .i64 (N n), .string (S n)]
theorem lkL_len (N : Nat → Int) (S : Nat → ByteArray) : ∀ n, (lkL N S n).length = n * 2
  | 0 => rfl
  | n + 1 => by rw [lkL, List.length_append, lkL_len N S n]; simp; omega
/-- what the place p of a leaf says -/
abbrev pl (f : Nat → Nat) (p : Nat) : Int × ByteArray × Bool × Int := decV (strN f 256) ((p : Int) * 64)
def plI (f : Nat → Nat) (p : Nat) : Int := (pl f p).1
def plS (f : Nat → Nat) (p : Nat) : ByteArray := (pl f p).2.1
/-- as far as here all is well -/
def flOk (f : Nat → Nat) (n : Int) (m : Nat) : Prop := ∀ p, p < m → (pl f p).2.2.2 = 0 ∧ (pl f p).2.2.1 = decide ((p : Int) < n)
theorem infoLk : (Tryz.prog.info? 54).map (fun i => (i.zero, i.size, i.bytes)) = some (some (.agg #[.int .i64 0, .string ⟨#[]⟩]), 2, 24) := by kernel_rfl
theorem infoRLk : (Tryz.prog.info? 82).map (fun i => (i.zero, i.size, i.bytes)) = some (some (.agg #[.int .i64 0, .string ⟨#[]⟩]), 2, 24) := by kernel_rfl
theorem cells_new2L (w : World) (x y : Value) (t : TypeId) : ∀ j u, ([x, y] : List Value)[j]? = some u → (w.alloc (.cells #[x, y] t)).cell? ((⟨w.heap.size, 0, none⟩ : Addr).add j) = some u := by
  intro j u h
  have hb := Blk.new w t #[x, y]
  rcases j with _ | j
  · simp at h; subst h; exact hb.cell 0
  · rcases j with _ | j
    · simp at h; subst h; exact hb.cell 1
    · simp at h
theorem kownBel {w w' : World} {B e size n : Nat} {v : Value} {xs : List Value} (h : w.ownsRow B e size v n xs) (hb : Below w.heap.size w w') : w'.ownsRow B e size v n xs := by
  refine ⟨h.1, ?_⟩
  rcases h.2 with hn | ⟨g, cap, cur, rfl, hg, hgg, rest⟩
  · exact .inl hn
  · exact .inr ⟨g, cap, cur, rfl, hg, (hb.block g (Array.getElem?_eq_some_iff.1 hgg).1).trans hgg, rest⟩
set_option maxHeartbeats 4000000 in
theorem fromLeaf_any (f : Nat → Nat) (hf : ∀ i, f i < 256) (n : Nat) (h4 : n ≤ 4) (w : World) :
    Calls Tryz.prog 108 #[bkV f, .int .i64 (n : Int)] w fun e w' => ((¬ flOk f n 4 ∧ e = .returned (.tuple #[.slice none 0 0, .int .i64 131])) ∨ (flOk f n 4 ∧ ∃ v, e = .returned (.tuple #[v, .int .i64 0]) ∧ w'.ownsRow w.heap.size 54 2 v n (lkL (plI f) (plS f) n))) ∧ Below w.heap.size w w' := by
  obtain ⟨i0, hi, hz0, hz1, hz2⟩ := info_parts infoLk
  have HT : Hid (∀ w : World, Calls Tryz.prog 128 #[.agg (va 256 (iv .u8 f))] w fun e w' => e = .returned (.string (strN f 256)) ∧ Below w.heap.size w w') := textOf_any f
  have HD : Hid (∀ p : Nat, p < 4 → ∀ w : World, Calls Tryz.prog 129 #[.string (strN f 256), .int .i64 ((p : Int) * 64)] w fun e w' => e = .returned (.tuple #[.agg #[.int .i64 (plI f p), .string (plS f p)], .bool (pl f p).2.2.1, .int .i64 (pl f p).2.2.2]) ∧ Below w.heap.size w w') := fun p hp w => decode_any (strN f 256) _ (by rw [strN_size]; decide) w
  have HLL : Hid (∀ m, lkL (plI f) (plS f) (m + 1) = lkL (plI f) (plS f) m ++ [.int .i64 (plI f m), .string (plS f m)]) := fun m => rfl
  have HK : Hid (∀ p, flOk f n (p + 1) ↔ flOk f n p ∧ (pl f p).2.2.2 = 0 ∧ (pl f p).2.2.1 = decide ((p : Int) < (n : Int))) := fun p => by
    unfold flOk
    constructor
    · intro h; exact ⟨fun q hq => h q (by omega), h p (by omega)⟩
    · rintro ⟨h1, h2⟩ q hq
      by_cases e : q = p
      · subst e; exact h2
      · exact h1 q (by omega)
  have HK4 : Hid (∀ p, p ≤ 4 → flOk f n 4 → flOk f n p) := fun p hp h q hq => h q (by omega)
  generalize htx : strN f 256 = tx at HT HD
  clear htx
  unfold bkV
  have hb0 := below_new1 w (.cells (va 256 (iv .u8 f)) 207)
  have hk0 : Blk (w.alloc (.cells (va 256 (iv .u8 f)) 207)) w.heap.size 207 (va 256 (iv .u8 f)) := Blk.new _ _ _
  have H0 : Hid (Below w.heap.size w (w.alloc (.cells (va 256 (iv .u8 f)) 207))) := hb0
  clear hb0
  have n1 : ¬ ((n : Int) < 0) := by omega
  have n2 : ¬ ((4 : Int) < (n : Int)) := by omega
  go_enter Tryz.func108, Tryz.ntmps108
  go_wp2_with (first
    | (refine wpList_load_row (by rfl) 207 _ (by rfl) (w.heap.size) (by rfl) 207 (va 256 (iv .u8 f)) (0, 0) _ hk0 Tryz.underlying207 (by rfl) (sizeBk.trans (by rw [va_size])) ?_; simp only [Act.put, List.setIfInBounds_toArray, List.set_cons_zero, List.set_cons_succ])
    | fail)
  generalize w.alloc (.cells (va 256 (iv .u8 f)) 207) = w1 at H0 ⊢
  refine (HT.out _).mono ?_
  intro e w2 hv2
  obtain ⟨he2, hb2⟩ := hv2
  subst he2
  have H2 : Hid (Below w.heap.size w w2) := H0.out.trans (hb2.mono H0.out.size)
  clear hb2 H0 hk0
  go_wp2_with fail
  go_loopw [6, 20] (fun v6 v20 wr => Hid (∃ (p : Nat) (v : Value), p ≤ 4 ∧ v20 = .int .i64 (p : Int) ∧ v6 = v ∧ flOk f n p ∧ wr.ownsRow w.heap.size 54 2 v (min p n) (lkL (plI f) (plS f) (min p n)) ∧ Below w.heap.size w wr)) (fun _ v20 _ => 4 - (intOf v20).toNat)
  case atStart => exact ⟨0, _, by omega, rfl, rfl, fun q hq => by omega, by rw [Nat.zero_min]; exact World.ownsRow_nil _ _ _ _, H2.out⟩
  case round =>
    obtain ⟨p, v, hp, rfl, rfl, hok, hown, hb⟩ := Hid.out hrel
    clear hrel H2
    by_cases h5 : p < 4
    · have p1 : (p : Int) < 4 := by omega
      have HDp := HD.out p h5
      have HKp := HK.out p
      have HS : Hid (flOk f n p ∧ wr.ownsRow w.heap.size 54 2 u6 (min p n) (lkL (plI f) (plS f) (min p n)) ∧ Below w.heap.size w wr) := ⟨hok, hown, hb⟩
      have HL1 := HLL.out p
      have HNO : Hid (¬ ((pl f p).2.2.2 = 0 ∧ (pl f p).2.2.1 = decide ((p : Int) < (n : Int))) → ¬ flOk f n 4) := fun h h4' => h ((HK.out p).1 (HK4.out (p + 1) (by omega) h4')).2
      clear hok hown hb
      generalize plI f p = di at HDp HL1
      generalize plS f p = ds at HDp HL1
      generalize (pl f p).2.2.1 = th at HDp HKp HNO
      generalize (pl f p).2.2.2 = er at HDp HKp HNO
      have HKQ : Hid (_ ↔ _) := HKp
      have HLQ : Hid (_ = _) := HL1
      clear HKp HL1
      go_wp2_with fail
      refine (HDp _).mono ?_
      intro e w3 hv3
      obtain ⟨he3, hb3⟩ := hv3
      subst he3
      have H3 : Hid (flOk f n p ∧ w3.ownsRow w.heap.size 54 2 u6 (min p n) (lkL (plI f) (plS f) (min p n)) ∧ Below w.heap.size w w3) := ⟨HS.out.1, kownBel HS.out.2.1 hb3, HS.out.2.2.trans (hb3.mono HS.out.2.2.size)⟩
      clear hb3 HS
      have H4 : Hid (Below w.heap.size w (w3.alloc (.cells #[.int .i64 di, .string ds] 54)) ∧ (w3.alloc (.cells #[.int .i64 di, .string ds] 54)).ownsRow w.heap.size 54 2 u6 (min p n) (lkL (plI f) (plS f) (min p n)) ∧ Blk (w3.alloc (.cells #[.int .i64 di, .string ds] 54)) w3.heap.size 54 #[.int .i64 di, .string ds]) :=
        ⟨H3.out.2.2.alloc H3.out.2.2.size _, H3.out.2.1.alloc _, Blk.new _ _ _⟩
      have HOK : Hid (flOk f n p) := H3.out.1
      clear H3
      by_cases e0 : er = 0
      · have b0 : (er != 0) = false := by rw [e0]; rfl
        by_cases hpn : p < n
        · have q1 : (p : Int) < (n : Int) := by omega
          have qd : decide ((p : Int) < (n : Int)) = true := decide_eq_true q1
          cases th
          · have HN : Hid (¬ flOk f n 4) := HNO.out (by simp [q1])
            clear e0
            go_wp2_with fail
            go_ret2
            exact ⟨Or.inl ⟨HN.out, rfl⟩, H4.out.1⟩
          · have HF : Hid (flOk f n (p + 1)) := HKQ.out.2 ⟨HOK.out, e0, by simp [q1]⟩
            clear e0
            have HMP : Hid (min p n = p ∧ min (p + 1) n = p + 1) := by show _ ∧ _; omega
            have HOWN : Hid (((w3.alloc (.cells #[.int .i64 di, .string ds] 54)).alloc (.cells #[.int .i64 di, .string ds] 54)).ownsRow w.heap.size 54 2 u6 (min p n) (lkL (plI f) (plS f) (min p n))) := H4.out.2.1.alloc _
            have HV2 := (H4.out.2.1.alloc (.cells #[.int .i64 di, .string ds] 54)).lt
            have hbA : Below w.heap.size w ((w3.alloc (.cells #[.int .i64 di, .string ds] 54)).alloc (.cells #[.int .i64 di, .string ds] 54)) := H4.out.1.alloc H4.out.1.size _
            have hsz := hbA.size
            have hml : min p n + 1 ≤ maxLen := Nat.le_trans (by omega : min p n + 1 ≤ 5) (by decide)
            clear H4
            go_wp2_with (first
              | (at_builtin; refine wpList_append_own _ rfl _ _ 151 rfl w.heap.size 54 i0 (.agg #[.int .i64 0, .string ⟨#[]⟩]) 2 24 Tryz.underlying151 hi hz0 hz1 hz2 rfl (by decide) _ _ _ rfl HOWN.out ⟨w3.heap.size + 1, 0, none⟩ 1 1 [.int .i64 di, .string ds] rfl rfl (by have := cells_new2L (w3.alloc (.cells #[.int .i64 di, .string ds] 54)) (.int .i64 di) (.string ds) 54; simpa using this) (by simp [Value.oneCell']) hml (by omega) (by simpa using hsz) ?_)
              | fail)
            intro v' w5 hown' hgrow _
            have hb5 : Below w.heap.size w w5 := hbA.grown hgrow hsz (fun q hq => (HV2 q hq).1)
            rw [HMP.out.1, ← HLQ.out] at hown'
            have HE : Hid (_ ∧ _) := ⟨hown', hb5⟩
            clear HOWN HV2 hgrow hbA hown' hb5
            go_wp2_with fail
            go_roundw
            case rel => exact ⟨p + 1, v', by omega, by first | rfl | go_num | simp, rfl, HF.out, by rw [HMP.out.2]; exact HE.out.1, HE.out.2⟩
            case measure => simp [intOf]; omega
        · have q1 : ¬ ((p : Int) < (n : Int)) := by omega
          have qd : decide ((p : Int) < (n : Int)) = false := decide_eq_false q1
          cases th
          · have HF : Hid (flOk f n (p + 1)) := HKQ.out.2 ⟨HOK.out, e0, by simp [q1]⟩
            have HM : Hid (min p n = min (p + 1) n) := by show _ = _; omega
            clear e0
            go_wp2_with fail
            go_roundw
            case rel => exact ⟨p + 1, u6, by omega, by first | rfl | go_num | simp, rfl, HF.out, HM.out ▸ H4.out.2.1, H4.out.1⟩
            case measure => simp [intOf]; omega
          · have HN : Hid (¬ flOk f n 4) := HNO.out (by simp [q1])
            clear e0
            go_wp2_with fail
            go_ret2
            exact ⟨Or.inl ⟨HN.out, rfl⟩, H4.out.1⟩
      · have b0 : (er != 0) = true := bne_iff_ne.2 e0
        have HN : Hid (¬ flOk f n 4) := HNO.out (fun h => e0 h.1)
        clear e0
        go_wp2_with fail
        go_ret2
        exact ⟨Or.inl ⟨HN.out, rfl⟩, H4.out.1⟩
    · obtain rfl : p = 4 := by omega
      have p1 : ¬ ((4 : Int) < 4) := by omega
      rw [Nat.min_eq_right h4] at hown
      have HS : Hid (_ ∧ _ ∧ _) := ⟨hok, hown, hb⟩
      clear hok hown hb
      go_wp2_with fail
      go_ret2
      exact ⟨Or.inr ⟨HS.out.1, _, rfl, HS.out.2.1⟩, HS.out.2.2⟩
end Go.Proofs.YtimjggkdpmgpjaaGreatDoor

namespace Go.Proofs.YtimjggkdpmgpjaaGreatDoor
set_option maxRecDepth 20000
open Go Go.RowKit
set_option linter.unusedVariables false
set_option linter.unusedSimpArgs false
/-- entries, one behind the other, in block g -/
def IsLk (W : World) (g n : Nat) (N : Nat → Int) (S : Nat → ByteArray) : Prop := ∀ i, i < n → W.cell? ⟨g, i * 2, none⟩ = some (.int .i64 (N i)) ∧ W.cell? ⟨g, i * 2 + 1, none⟩ = some (.string (S i))
end Go.Proofs.YtimjggkdpmgpjaaGreatDoor

namespace Go.Proofs.YtimjggkdpmgpjaaGreatDoor
set_option maxRecDepth 20000
open Go Go.RowKit
set_option linter.unusedVariables false
set_option linter.unusedSimpArgs false
/-- the first error of Encode among n entries -/
def leE (N : Nat → Int) (S : Nat → ByteArray) : Nat → Int
  | 0 => 0
  | n + 1 => if leE N S n ≠ 0 then leE N S n else encE (N n) (S n)
/-- their leaf -/
def leF (N : Nat → Int) (S : Nat → ByteArray) : Nat → Nat → Nat
  | 0 => fun _ => 0
  | n + 1 => putAt (leF N S n) (n * 64) 64 (tbyte (encT (N n) (S n)))
theorem leE_more (N : Nat → Int) (S : Nat → ByteArray) {p n : Nat} (hp : p ≤ n) (h : leE N S p ≠ 0) : leE N S n = leE N S p := by
  induction n with
  | zero => rw [show p = 0 by omega]
  | succ n ih =>
    by_cases e : p = n + 1
    · rw [e]
    · have := ih (by omega)
      show (if leE N S n ≠ 0 then leE N S n else encE (N n) (S n)) = _
      rw [this, if_pos h]
/-- entries handed in as a slice -/
def IsLks (W : World) (a : Option Addr) (n : Nat) (N : Nat → Int) (S : Nat → ByteArray) : Prop := 0 < n → ∃ g, a = some ⟨g, 0, none⟩ ∧ g < W.heap.size ∧ IsLk W g n N S
set_option maxHeartbeats 4000000 in
theorem leaf_any (a : Option Addr) (n c : Nat) (h4 : n ≤ 4) (N : Nat → Int) (S : Nat → ByteArray) (w : World) (hI : IsLks w a n N S) :
    Calls Tryz.prog 88 #[.slice a n c] w fun e w' => e = .returned (.tuple #[bkV (if leE N S n = 0 then leF N S n else fun _ => 0), .int .i64 (leE N S n)]) ∧ Below w.heap.size w w' := by
  have hz := zero_bk
  have HI : Hid (∀ p, p < n → ∃ g, a = some ⟨g, 0, none⟩ ∧ g < w.heap.size ∧ w.cell? ⟨g, p * 2, none⟩ = some (.int .i64 (N p)) ∧ w.cell? ⟨g, p * 2 + 1, none⟩ = some (.string (S p))) := fun p hp => by
    obtain ⟨g, h1, h2, h3⟩ := hI (by omega)
    exact ⟨g, h1, h2, (h3 p hp).1, (h3 p hp).2⟩
  clear hI
  have HE : Hid (∀ (p : Nat) (w : World), Calls Tryz.prog 49 #[.agg #[.int .i64 (N p), .string (S p)]] w fun e w' => e = .returned (.tuple #[.string (encT (N p) (S p)), .int .i64 (encE (N p) (S p))]) ∧ Below w.heap.size w w') := fun p => encode_any (N p) (S p)
  have HLY : Hid (∀ p, p < 4 → encE (N p) (S p) = 0 → ∀ w : World, Calls Tryz.prog 113 #[.agg (va 256 (iv .u8 (leF N S p))), .int .i64 ((p : Int) * 64), .string (encT (N p) (S p))] w fun e w' => e = .returned (.tuple #[.agg (va 256 (iv .u8 (leF N S (p + 1)))), .int .i64 0]) ∧ Below w.heap.size w w') := fun p hp he w => by
    have hsz : (encT (N p) (S p)).size = 64 := by unfold encT; rw [if_pos he, strN_size]
    have := lay_fit (leF N S p) (p * 64) (encT (N p) (S p)) (by omega) w
    rw [hsz, show ((p * 64 : Nat) : Int) = (p : Int) * 64 from by omega] at this
    exact this
  have HK : Hid (∀ p, leE N S (p + 1) = if leE N S p ≠ 0 then leE N S p else encE (N p) (S p)) := fun p => rfl
  have HM : Hid (∀ p, p ≤ n → leE N S p ≠ 0 → leE N S n = leE N S p) := fun p hp h => leE_more N S hp h
  generalize hre : leE N S n = re
  generalize hrf : (if re = 0 then leF N S n else fun _ => 0) = rf
  have HRE : Hid (leE N S n = re) := hre
  have HRF : Hid ((if re = 0 then leF N S n else fun _ => 0) = rf) := hrf
  clear hre hrf
  unfold bkV
  have hk0 : Blk ((w.alloc (.cells (va 256 (iv .u8 fun _ => 0)) 207)).alloc (.cells (va 256 (iv .u8 fun _ => 0)) 207)) w.heap.size 207 (va 256 (iv .u8 fun _ => 0)) := (Blk.new _ _ _).alloc _
  have hk1 := Blk.new1 w (.cells (va 256 (iv .u8 fun _ => 0)) 207) 207 (va 256 (iv .u8 fun _ => 0))
  have hb0 := below_new2 w (.cells (va 256 (iv .u8 fun _ => 0)) 207) (.cells (va 256 (iv .u8 fun _ => 0)) 207)
  have H0 : Hid (_ ∧ _ ∧ _) := ⟨hk0, hk1, hb0⟩
  clear hk0 hk1 hb0
  have h1 : ¬ ((4 : Int) < (n : Int)) := by omega
  go_enter Tryz.func88, Tryz.ntmps88
  go_wp2_with fail
  generalize (w.alloc (.cells (va 256 (iv .u8 fun _ => 0)) 207)).alloc (.cells (va 256 (iv .u8 fun _ => 0)) 207) = w1 at H0 ⊢
  go_loopw [15] (fun v wr => Hid (∃ p : Nat, p ≤ n ∧ v = .int .i64 (p : Int) ∧ leE N S p = 0 ∧ Blk wr w.heap.size 207 (va 256 (iv .u8 fun _ => 0)) ∧ Blk wr (w.heap.size + 1) 207 (va 256 (iv .u8 (leF N S p))) ∧ Below w.heap.size w wr)) (fun v _ => n - (intOf v).toNat)
  case atStart => exact ⟨0, by omega, rfl, rfl, H0.out⟩
  case round =>
    obtain ⟨p, hp, rfl, hle, hb0, hb1, hbel⟩ := Hid.out hrel
    have H2 : Hid (leE N S p = 0 ∧ Blk wr w.heap.size 207 (va 256 (iv .u8 fun _ => 0)) ∧ Blk wr (w.heap.size + 1) 207 (va 256 (iv .u8 (leF N S p))) ∧ Below w.heap.size w wr) := ⟨hle, hb0, hb1, hbel⟩
    clear hrel hle hb0 hb1 hbel H0
    by_cases hpn : p < n
    · have p1 : (p : Int) < (n : Int) := by omega
      obtain ⟨g, rfl, hg, g0, g1⟩ := HI.out p hpn
      have c0 : wr.cell? ⟨g, p * 2, none⟩ = some (.int .i64 (N p)) := (H2.out.2.2.2.cell hg).trans g0
      have c1 : wr.cell? ⟨g, p * 2 + 1, none⟩ = some (.string (S p)) := (H2.out.2.2.2.cell hg).trans g1
      clear g0 g1
      go_wp2_with fail
      have H3 : Hid (Blk (wr.alloc (.cells #[.int .i64 (N p), .string (S p)] 54)) w.heap.size 207 (va 256 (iv .u8 fun _ => 0)) ∧ Blk (wr.alloc (.cells #[.int .i64 (N p), .string (S p)] 54)) (w.heap.size + 1) 207 (va 256 (iv .u8 (leF N S p))) ∧ Below w.heap.size w (wr.alloc (.cells #[.int .i64 (N p), .string (S p)] 54))) := ⟨H2.out.2.1.alloc _, H2.out.2.2.1.alloc _, H2.out.2.2.2.alloc H2.out.2.2.2.size _⟩
      have HLE : Hid (leE N S p = 0) := H2.out.1
      clear H2 c0 c1
      have HEp := HE.out p
      have HLp := HLY.out p (by omega)
      have HKp : Hid (leE N S (p + 1) = encE (N p) (S p)) := by show _ = _; rw [HK.out p, if_neg (by simp [HLE.out])]
      generalize encE (N p) (S p) = ee at HEp HLp HKp
      generalize encT (N p) (S p) = et at HEp HLp
      generalize (wr.alloc (.cells #[.int .i64 (N p), .string (S p)] 54)) = w2 at H3 ⊢
      refine (HEp _).mono ?_
      intro e w3 hv3
      obtain ⟨he3, hb3⟩ := hv3
      subst he3
      have H4 : Hid (Blk w3 w.heap.size 207 (va 256 (iv .u8 fun _ => 0)) ∧ Blk w3 (w.heap.size + 1) 207 (va 256 (iv .u8 (leF N S p))) ∧ Below w.heap.size w w3) := ⟨H3.out.1.below hb3 H3.out.1.lt, H3.out.2.1.below hb3 H3.out.2.1.lt, H3.out.2.2.trans (hb3.mono H3.out.2.2.size)⟩
      clear hb3 H3
      have k0 := H4.out.1
      have k1 := H4.out.2.1
      by_cases e0 : ee = 0
      · have b0 : (ee != 0) = false := by rw [e0]; rfl
        have HLq : Hid _ := HLp e0
        have HF : Hid (leE N S (p + 1) = 0) := HKp.out.trans e0
        clear e0 HLp
        obtain ⟨F2, HF2⟩ : ∃ F, Hid (leF N S (p + 1) = F) := ⟨_, rfl⟩
        obtain ⟨F1, HF1⟩ : ∃ F, Hid (leF N S p = F) := ⟨_, rfl⟩
        rw [HF2.out, HF1.out] at HLq
        rw [HF1.out] at k1 H4
        go_wp2_with (first
          | (refine wpList_load_row (by rfl) 207 _ (by rfl) (w.heap.size + 1) (by rfl) 207 (va 256 (iv .u8 F1)) (0, 0) _ k1 Tryz.underlying207 (by rfl) (sizeBk.trans (by rw [va_size])) ?_; simp only [Act.put, List.setIfInBounds_toArray, List.set_cons_zero, List.set_cons_succ])
          | fail)
        refine (HLq.out _).mono ?_
        intro e w4 hv4
        obtain ⟨he4, hb4⟩ := hv4
        subst he4
        have H5 : Hid (Blk w4 w.heap.size 207 (va 256 (iv .u8 fun _ => 0)) ∧ Blk w4 (w.heap.size + 1) 207 (va 256 (iv .u8 F1)) ∧ Below w.heap.size w w4) := ⟨H4.out.1.below hb4 H4.out.1.lt, H4.out.2.1.below hb4 H4.out.2.1.lt, H4.out.2.2.trans (hb4.mono H4.out.2.2.size)⟩
        clear hb4 H4 k0 k1
        have k2 := H5.out.2.1
        have H6 : Hid (Blk (w4.setRow (w.heap.size + 1) (va 256 (iv .u8 F2))) w.heap.size 207 (va 256 (iv .u8 fun _ => 0)) ∧ Blk (w4.setRow (w.heap.size + 1) (va 256 (iv .u8 F2))) (w.heap.size + 1) 207 (va 256 (iv .u8 F2)) ∧ Below w.heap.size w (w4.setRow (w.heap.size + 1) (va 256 (iv .u8 F2)))) := ⟨H5.out.1.other _ (by omega), k2.set _, below_setRow H5.out.2.2 (Nat.le_succ _) _⟩
        go_wp2_with (first
          | (refine wpList_store_row (by rfl) 207 _ _ (by rfl) (w.heap.size + 1) (va 256 (iv .u8 F2)) (by rfl) (by rfl) 207 _ k2 (sizeBk.trans (by rw [va_size])) (by simp only [va_size]) (iv_one _ _ _) ?_; simp only [Act.put, List.setIfInBounds_toArray, List.set_cons_zero, List.set_cons_succ])
          | fail)
        go_roundw
        case rel => exact ⟨p + 1, by omega, by first | rfl | go_num | simp, HF.out, by rw [HF2.out]; exact H6.out⟩
        case measure => simp [intOf]; omega
      · have b0 : (ee != 0) = true := bne_iff_ne.2 e0
        obtain rfl : ee = re := by
          have := HM.out (p + 1) (by omega) (by rw [HKp.out]; exact e0)
          rw [HKp.out, HRE.out] at this
          exact this.symm
        obtain rfl : (fun _ => 0) = rf := by rw [← HRF.out, if_neg e0]
        clear e0
        go_wp2_with (first
          | (refine wpList_store_row (by rfl) 207 _ _ (by rfl) (w.heap.size) (va 256 (iv .u8 (fun _ => 0))) (by rfl) (by rfl) 207 _ k0 (sizeBk.trans (by rw [va_size])) (by simp only [va_size]) (iv_one _ _ _) ?_; simp only [Act.put, List.setIfInBounds_toArray, List.set_cons_zero, List.set_cons_succ])
          | fail)
        try simp only [Exit.inBlock, Exit.then]
        refine bodyPost_ret (results_row2 Tryz.results88 _ _ (w.heap.size) 207 (va 256 (iv .u8 (fun _ => 0))) (0, 0) _ rfl (k0.set _) Tryz.underlying207 rfl (sizeBk.trans (by rw [va_size]))) rfl ?_
        exact ⟨rfl, below_setRow H4.out.2.2 (Nat.le_refl _) _⟩
    · obtain rfl : p = n := by omega
      have p1 : ¬ ((p : Int) < (p : Int)) := by omega
      obtain rfl : 0 = re := H2.out.1.symm.trans HRE.out
      have hF : leF N S p = rf := by rw [← HRF.out, if_pos rfl]
      have k0 := H2.out.2.1
      have k1 := H2.out.2.2.1
      rw [hF] at k1
      have HB : Hid (Below w.heap.size w wr) := H2.out.2.2.2
      clear H2 hF HRF HRE
      go_wp2_with (first
        | (refine wpList_load_row (by rfl) 207 _ (by rfl) (w.heap.size + 1) (by rfl) 207 (va 256 (iv .u8 rf)) (0, 0) _ k1 Tryz.underlying207 (by rfl) (sizeBk.trans (by rw [va_size])) ?_; simp only [Act.put, List.setIfInBounds_toArray, List.set_cons_zero, List.set_cons_succ])
        | (refine wpList_store_row (by rfl) 207 _ _ (by rfl) (w.heap.size) (va 256 (iv .u8 rf)) (by rfl) (by rfl) 207 _ k0 (sizeBk.trans (by rw [va_size])) (by simp only [va_size]) (iv_one _ _ _) ?_; simp only [Act.put, List.setIfInBounds_toArray, List.set_cons_zero, List.set_cons_succ])
        | fail)
      try simp only [Exit.inBlock, Exit.then]
      refine bodyPost_ret (results_row2 Tryz.results88 _ _ (w.heap.size) 207 (va 256 (iv .u8 rf)) (0, 0) _ rfl (k0.set _) Tryz.underlying207 rfl (sizeBk.trans (by rw [va_size]))) rfl ?_
      exact ⟨rfl, below_setRow HB.out (Nat.le_refl _) _⟩
end Go.Proofs.YtimjggkdpmgpjaaGreatDoor

namespace Go.Proofs.YtimjggkdpmgpjaaGreatDoor
set_option maxRecDepth 20000
open Go Go.RowKit
set_option linter.unusedVariables false
set_option linter.unusedSimpArgs false
theorem tb_eq (t : ByteArray) (j : Nat) : qbyteAt t j = tbyte t j := rfl
section
variable (s : ByteArray)
end
end Go.Proofs.YtimjggkdpmgpjaaGreatDoor

namespace Go.Proofs.YtimjggkdpmgpjaaGreatDoor
set_option maxRecDepth 20000
open Go Go.RowKit
set_option linter.unusedVariables false
set_option linter.unusedSimpArgs false
theorem ent_i (i : Nat) (s : ByteArray) (h : i < 4294967296) : qat4 (strN (entF i s) 64) 0 = i := by
  unfold qat4 le4
  rw [tb_eq, tb_eq, tb_eq, tb_eq, strN_at _ _ _ (by decide) (entF_lt _ _ _), strN_at _ _ _ (by decide) (entF_lt _ _ _), strN_at _ _ _ (by decide) (entF_lt _ _ _), strN_at _ _ _ (by decide) (entF_lt _ _ _)]
  unfold entF
  rw [if_pos (by decide), if_pos (by decide), if_pos (by decide), if_pos (by decide)]
  show i / 1 % 256 + i / 256 % 256 * 256 + i / 65536 % 256 * 65536 + i / 16777216 % 256 * 16777216 = i
  omega
theorem ent_n (i : Nat) (s : ByteArray) (h : s.size ≤ 56) : at2 (strN (entF i s) 64) 4 = s.size := by
  unfold at2 le2
  rw [tb_eq, tb_eq, strN_at _ _ _ (by decide) (entF_lt _ _ _), strN_at _ _ _ (by decide) (entF_lt _ _ _)]
  unfold entF
  rw [if_neg (by decide), if_pos (by decide), if_neg (by decide), if_pos (by decide)]
  show s.size / 1 % 256 + s.size / 256 % 256 * 256 = s.size
  omega
theorem ent_s (i : Nat) (s : ByteArray) (h : s.size ≤ 56) : decS (strN (entF i s) 64) = s := by
  unfold decS
  rw [ent_n i s h, Nat.min_eq_left (by omega)]
  have hz : (strN (entF i s) 64).size = 64 := strN_size _ _
  have hz2 : ((strN (entF i s) 64).extract 8 (8 + s.size)).size = s.size := by rw [extract_size _ _ _ (by rw [hz]; omega)]; omega
  refine text_ext hz2 fun j hj => ?_
  rw [hz2] at hj
  rw [tbyte_extract _ _ _ _ (by rw [hz]; omega) (by omega), strN_at _ _ _ (by omega) (entF_lt _ _ _)]
  unfold entF
  rw [if_neg (by omega), if_neg (by omega), if_neg (by omega), if_pos (by omega), Nat.add_sub_cancel_left]
theorem dec_enc (i : Int) (s : ByteArray) (h : encE i s = 0) : decV (encT i s) 0 = (i, s, true, 0) := by
  have hh := h
  unfold encE at hh
  by_cases h1 : i < 1 ∨ 4096 < i
  · rw [if_pos h1] at hh; cases hh
  · rw [if_neg h1] at hh
    have hn : isName s.data.toList = true := by
      cases hq : isName s.data.toList
      · rw [hq] at hh; simp at hh
      · rfl
    have h56 : s.size ≤ 56 := by rw [Lib.size_eq]; exact (isName_len hn).2
    obtain ⟨n, rfl⟩ : ∃ n : Nat, i = (n : Int) := ⟨i.toNat, by omega⟩
    have ht : encT (n : Int) s = strN (entF n s) 64 := by unfold encT; rw [if_pos h, Int.toNat_natCast]
    have hz : (strN (entF n s) 64).size = 64 := strN_size _ _
    rw [ht]
    unfold decV
    have hx : (strN (entF n s) 64).extract (0 : Int).toNat ((0 : Int).toNat + 64) = strN (entF n s) 64 := by
      show (strN (entF n s) 64).extract 0 64 = _
      have hz3 : ((strN (entF n s) 64).extract 0 64).size = 64 := by rw [extract_size _ _ _ (by rw [hz]; decide)]
      refine text_ext (hz3.trans hz.symm) fun j hj => ?_
      rw [hz3] at hj
      rw [tbyte_extract _ _ _ _ (by rw [hz]; decide) (by omega), Nat.zero_add]
    rw [hx, if_pos (by rw [hz]; decide)]
    have hd : decI (strN (entF n s) 64) = n := ent_i n s (by omega)
    have hs := ent_s n s h56
    have hzt : zT (strN (entF n s) 64) = false := by
      cases hq : zT (strN (entF n s) 64)
      · rfl
      · exfalso
        unfold zT at hq
        rw [List.all_eq_true] at hq
        have key : ∀ j, j < 64 → entF n s j = 0 := fun j hj => by
          rw [← strN_at (entF n s) 64 j hj (entF_lt _ _ _)]
          unfold tbyte
          rw [List.getD_eq_getElem?_getD]
          cases hl : (strN (entF n s) 64).data.toList[j]? with
          | none => rfl
          | some b =>
            have := hq b (List.mem_of_getElem? hl)
            have hb : b = 0 := by simpa using this
            rw [hb]; rfl
        have e0 := key 0 (by decide); have e1 := key 1 (by decide); have e2 := key 2 (by decide); have e3 := key 3 (by decide)
        have hi := ent_i n s (by omega)
        unfold qat4 le4 at hi
        rw [tb_eq, tb_eq, tb_eq, tb_eq, strN_at _ _ _ (by decide) (entF_lt _ _ _), strN_at _ _ _ (by decide) (entF_lt _ _ _), strN_at _ _ _ (by decide) (entF_lt _ _ _), strN_at _ _ _ (by decide) (entF_lt _ _ _)] at hi
        simp only [Nat.zero_add] at hi
        rw [e0, e1, e2, e3] at hi
        omega
    have hok : decOk (strN (entF n s) 64) = true := by
      unfold decOk
      rw [hd, hs, h, ht]
      simp
    rw [hzt, hok, hd, hs]; rfl
end Go.Proofs.YtimjggkdpmgpjaaGreatDoor

namespace Go.Proofs.YtimjggkdpmgpjaaGreatDoor
open Go Go.RowKit
set_option linter.unusedVariables false
theorem decV_cut (s t : ByteArray) (a : Nat) (h : a + 64 ≤ s.size) (ht : s.extract a (a + 64) = t) (h64 : t.size = 64) : decV s (a : Int) = decV t 0 := by
  have hx : t.extract (0 : Int).toNat ((0 : Int).toNat + 64) = t := by
    show t.extract 0 64 = t
    have hz3 : (t.extract 0 64).size = 64 := by rw [extract_size _ _ _ (by rw [h64]; exact Nat.le_refl _)]
    refine text_ext (hz3.trans h64.symm) fun j hj => ?_
    rw [hz3] at hj
    rw [tbyte_extract _ _ _ _ (by rw [h64]; exact Nat.le_refl _) (by omega), Nat.zero_add]
  have c1 : 0 ≤ (a : Int) ∧ (a : Int) ≤ (s.size : Int) - 64 := by omega
  have c2 : (0 : Int) ≤ 0 ∧ (0 : Int) ≤ (t.size : Int) - 64 := by rw [h64]; decide
  unfold decV
  rw [Int.toNat_natCast, ht, hx, if_pos c1, if_pos c2]
/-- what the leaf has at a place among the first n -/
theorem leF_at (N : Nat → Int) (S : Nat → ByteArray) (n p j : Nat) (hp : p < n) (hj : j < 64) : leF N S n (p * 64 + j) = tbyte (encT (N p) (S p)) j := by
  induction n with
  | zero => omega
  | succ n ih =>
    show putAt (leF N S n) (n * 64) 64 (tbyte (encT (N n) (S n))) (p * 64 + j) = _
    unfold putAt
    by_cases e : p = n
    · subst e
      rw [if_pos (by omega), Nat.add_sub_cancel_left]
    · rw [if_neg (by omega)]
      exact ih (by omega)
theorem leF_out (N : Nat → Int) (S : Nat → ByteArray) (n j : Nat) (hj : n * 64 ≤ j) : leF N S n j = 0 := by
  induction n with
  | zero => rfl
  | succ n ih =>
    show putAt (leF N S n) (n * 64) 64 (tbyte (encT (N n) (S n))) j = 0
    unfold putAt
    rw [if_neg (by omega)]
    exact ih (by omega)
theorem leF_lt (N : Nat → Int) (S : Nat → ByteArray) (n j : Nat) : leF N S n j < 256 := by
  induction n generalizing j with
  | zero => exact Nat.zero_lt_succ _
  | succ n ih =>
    show putAt (leF N S n) (n * 64) 64 (tbyte (encT (N n) (S n))) j < 256
    exact putAt_lt ih (tbyte_lt _) j
theorem leE_each (N : Nat → Int) (S : Nat → ByteArray) {n p : Nat} (h : leE N S n = 0) (hp : p < n) : encE (N p) (S p) = 0 := by
  cases Classical.em (leE N S (p + 1) = 0) with
  | inl h1 =>
    have h2 : (if leE N S p ≠ 0 then leE N S p else encE (N p) (S p)) = 0 := h1
    by_cases h3 : leE N S p = 0
    · rw [if_neg (by simp [h3])] at h2; exact h2
    · rw [if_pos h3] at h2; exact absurd h2 h3
  | inr h1 => exact absurd ((leE_more N S (by omega : p + 1 ≤ n) h1).symm.trans h) h1
theorem pl_in (N : Nat → Int) (S : Nat → ByteArray) (n p : Nat) (h4 : n ≤ 4) (h : leE N S n = 0) (hp : p < n) : pl (leF N S n) p = (N p, S p, true, 0) := by
  have he := leE_each N S h hp
  have hz : (strN (leF N S n) 256).size = 256 := strN_size _ _
  have h64 : (encT (N p) (S p)).size = 64 := by unfold encT; rw [if_pos he, strN_size]
  have hc : (strN (leF N S n) 256).extract (p * 64) (p * 64 + 64) = encT (N p) (S p) := by
    have hz2 : ((strN (leF N S n) 256).extract (p * 64) (p * 64 + 64)).size = 64 := by rw [extract_size _ _ _ (by rw [hz]; omega)]; omega
    refine text_ext (hz2.trans h64.symm) fun j hj => ?_
    rw [hz2] at hj
    rw [tbyte_extract _ _ _ _ (by rw [hz]; omega) (by omega), strN_at _ _ _ (by omega) (leF_lt _ _ _ _), leF_at N S n p j hp hj]
  show decV (strN (leF N S n) 256) ((p : Int) * 64) = _
  rw [show (p : Int) * 64 = ((p * 64 : Nat) : Int) from by omega, decV_cut _ _ _ (by rw [hz]; omega) hc h64]
  exact dec_enc (N p) (S p) he
theorem pl_out (N : Nat → Int) (S : Nat → ByteArray) (n p : Nat) (h4 : n ≤ 4) (hp : n ≤ p) (hp4 : p < 4) : pl (leF N S n) p = (0, ⟨#[]⟩, false, 0) := by
  have hz : (strN (leF N S n) 256).size = 256 := strN_size _ _
  have hz2 : ((strN (leF N S n) 256).extract (p * 64) (p * 64 + 64)).size = 64 := by rw [extract_size _ _ _ (by rw [hz]; omega)]; omega
  have hzt : zT ((strN (leF N S n) 256).extract (p * 64) (p * 64 + 64)) = true := by
    unfold zT
    rw [List.all_eq_true]
    intro b hb
    obtain ⟨j, hj, rfl⟩ := List.getElem_of_mem hb
    have hj2 : j < 64 := by rw [← Lib.size_eq, hz2] at hj; exact hj
    have hb0 : tbyte ((strN (leF N S n) 256).extract (p * 64) (p * 64 + 64)) j = 0 := by
      rw [tbyte_extract _ _ _ _ (by rw [hz]; omega) (by omega), strN_at _ _ _ (by omega) (leF_lt _ _ _ _), leF_out N S n _ (by omega)]
    unfold tbyte at hb0
    rw [List.getD_eq_getElem?_getD, List.getElem?_eq_getElem hj] at hb0
    have : ((strN (leF N S n) 256).extract (p * 64) (p * 64 + 64)).data.toList[j] = 0 := UInt8.toNat_inj.1 hb0
    rw [this]; rfl
  show decV (strN (leF N S n) 256) ((p : Int) * 64) = _
  rw [show (p : Int) * 64 = ((p * 64 : Nat) : Int) from by omega]
  unfold decV
  rw [if_pos (by rw [hz]; omega), Int.toNat_natCast, hzt, if_pos rfl]
theorem flOk_back (N : Nat → Int) (S : Nat → ByteArray) (n : Nat) (h4 : n ≤ 4) (h : leE N S n = 0) : flOk (leF N S n) n 4 := by
  intro p hp
  by_cases hpn : p < n
  · rw [pl_in N S n p h4 h hpn]
    exact ⟨rfl, (decide_eq_true (by omega)).symm⟩
  · rw [pl_out N S n p h4 (by omega) hp]
    exact ⟨rfl, (decide_eq_false (by omega)).symm⟩
theorem plI_back (N : Nat → Int) (S : Nat → ByteArray) (n : Nat) (h4 : n ≤ 4) (h : leE N S n = 0) (p : Nat) (hp : p < n) : plI (leF N S n) p = N p ∧ plS (leF N S n) p = S p := by
  unfold plI plS
  rw [pl_in N S n p h4 h hp]
  exact ⟨rfl, rfl⟩
end Go.Proofs.YtimjggkdpmgpjaaGreatDoor
