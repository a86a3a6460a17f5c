/- Directories: List: all entries, sorted. -/
import Derived.Test.YtimjggkdpmgpjaaGreatDoorHNaSym3
import Derived.Test.YtimjggkdpmgpjaaGreatDoorHNaJoinB
import Derived.Test.YtimjggkdpmgpjaaGreatDoorHNaGiven
import Derived.Test.YtimjggkdpmgpjaaGreatDoorHNaBack
import Derived.Test.YtimjggkdpmgpjaaGreatDoorHBlkOwn
import Derived.Handy
import Derived.Maps.AppendAt
import Derived.Deep.Cut

namespace Go.Proofs.YtimjggkdpmgpjaaGreatDoor
open Go Go.RowKit Go.Nam
set_option linter.unusedVariables false
set_option linter.unusedSimpArgs false
theorem va_lb (N : Nat → Int) (S : Nat → ByteArray) : ∀ n, (va (n * 2) (lbF N S)).toList = lkL N S n
  | 0 => by simp [va, lkL]
  | n + 1 => by
    have ih := va_lb N S n
    unfold va at ih ⊢
    rw [show (n + 1) * 2 = n * 2 + 1 + 1 by omega, List.range_succ, List.range_succ]
    simp only [List.map_append, List.map_cons, List.map_nil]
    simp only at ih
    rw [lkL, ← ih, List.append_assoc]
    have e0 : lbF N S (n * 2) = .int .i64 (N n) := by unfold lbF; rw [if_pos (by omega), show n * 2 / 2 = n by omega]
    have e1 : lbF N S (n * 2 + 1) = .string (S n) := by unfold lbF; rw [if_neg (by omega), show (n * 2 + 1) / 2 = n by omega]
    rw [e0, e1]
    rfl
theorem own_lb {w : World} {B n cap g : Nat} {N : Nat → Int} {S : Nat → ByteArray} (h : w.ownsRow B 54 2 (.slice (some ⟨g, 0, none⟩) n cap) n (lkL N S n)) : ∃ tl : Array Value, Blk w g 54 (lbC tl n N S) ∧ tl.size = (cap - n) * 2 ∧ n ≤ cap ∧ cap ≤ maxLen ∧ B ≤ g := by
  rcases h.2 with ⟨hv, _⟩ | ⟨g', cap', cur, hv, hB, hg, hn, hm, hs, ht⟩
  · cases hv
  · cases hv
    refine ⟨(cur.toList.drop (n * 2)).toArray, ?_, ?_, hn, hm, hB⟩
    · have e : lbC (cur.toList.drop (n * 2)).toArray n N S = cur := by
        apply Array.ext'
        unfold lbC
        rw [Array.toList_append, va_lb, ← ht]
        simp
      rw [e]
      exact hg
    · simp
      rw [hs]
      omega
theorem lb_own {w : World} {B n cap g : Nat} {N : Nat → Int} {S : Nat → ByteArray} {tl : Array Value} (h : Blk w g 54 (lbC tl n N S)) (ht : tl.size = (cap - n) * 2) (hn : n ≤ cap) (hm : cap ≤ maxLen) (hB : B ≤ g) : w.ownsRow B 54 2 (.slice (some ⟨g, 0, none⟩) n cap) n (lkL N S n) := by
  refine ⟨lkL_len N S n, .inr ⟨g, cap, _, rfl, hB, h, hn, hm, ?_, ?_⟩⟩
  · unfold lbC
    rw [Array.size_append, va_size, ht]
    omega
  · unfold lbC
    rw [Array.toList_append, va_lb, List.take_append_of_le_length (by rw [lkL_len]; exact Nat.le_refl _), List.take_of_length_le (by rw [lkL_len]; exact Nat.le_refl _)]
theorem eq_lks_nil (d : Nat) (p : Option Addr) (n cap : Nat) (w : World) : (Op.equalIn (d + 1) 151 (.slice p n cap) (.slice none 0 0)).run Tryz.prog w = .ok p.isNone w := by
  cases p <;> simp [Op.equalIn, run_underlying Tryz.underlying151]
theorem lks_nil (p : Option Addr) (n cap : Nat) (w : World) : Sem.run Tryz.prog (binOp .eql 151 (.slice p n cap) (.slice none 0 0)) w = .ok (.bool p.isNone) w := by
  simp only [binOp]
  simp [show Op.equal 151 (.slice p n cap) (.slice none 0 0) = Op.equalIn (9999 + 1) 151 (.slice p n cap) (.slice none 0 0) from rfl, eq_lks_nil 9999 p n cap w]
set_option maxRecDepth 100000 in
set_option maxHeartbeats 4000000 in
theorem clone_lks (a : Option Addr) (n c : Nat) (N : Nat → Int) (S : Nat → ByteArray) (hn : n * 24 ≤ 140737488355328) (w : World) (hI : IsLkC w a n N S) (ha : a = none → n = 0 ∧ c = 0) :
    Calls Tryz.prog 136 #[.slice a n c] w fun e w' => ∃ v, e = .returned v ∧ w'.ownsRow w.heap.size 54 2 v n (lkL N S n) ∧ Below w.heap.size w w' := by
  obtain ⟨i0, hi0, hz0, hz1, hz2⟩ := info_parts infoLk
  cases a with
  | none =>
    obtain ⟨rfl, rfl⟩ := ha rfl
    have hnl := lks_nil none 0 0
    have hin : (none : Option Addr).isNone = true := rfl
    go_enter Tryz.func136, Tryz.ntmps136
    go_wp2_with fail
    go_ret
    exact ⟨_, rfl, World.ownsRow_nil _ _ _ _, Below.refl _ _⟩
  | some ad =>
    have HE : Hid ((w.alloc (.cells #[] 54)).ownsRow w.heap.size 54 2 (.slice (some ⟨w.heap.size, 0, none⟩) 0 0) 0 []) := kown_empty (Blk.new w 54 #[]) (Nat.le_refl _)
    have hb0 : Below w.heap.size w (w.alloc (.cells #[] 54)) := (Below.refl _ w).alloc (Nat.le_refl _) _
    have HI : Hid (IsLkC (w.alloc (.cells #[] 54)) (some ad) n N S) := hI.below hb0
    have HB : Hid (Below w.heap.size w (w.alloc (.cells #[] 54))) := hb0
    have HA : Hid ((some ad : Option Addr) = none → n = 0 ∧ c = 0) := fun h => by cases h
    have hnl := lks_nil (some ad) n c
    have hin : (some ad).isNone = false := rfl
    clear hI hb0 ha
    go_enter Tryz.func136, Tryz.ntmps136
    go_wp2_with (first
      | (at_builtin; refine wpList_append_links rfl _ _ 151 rfl w.heap.size 54 i0 (.agg #[.int .i64 0, .string ⟨#[]⟩]) Tryz.underlying151 hi0 hz0 hz1 hz2 rfl _ rfl HE.out (some ad) n c N S rfl HI.out HA.out hn (by simp) ?_)
      | fail)
    intro v' w' ho hb
    have HO : Hid (w'.ownsRow w.heap.size 54 2 v' n (lkL N S n) ∧ Below w.heap.size w w') := ⟨ho, HB.out.trans (hb.mono (Nat.le_refl _))⟩
    clear ho hb
    go_wp2_with fail
    go_ret
    exact ⟨_, rfl, HO.out.1, HO.out.2⟩
set_option maxRecDepth 100000 in
theorem ins_zero (a : Option Addr) (c : Nat) (V : World) : Calls Tryz.prog 191 #[.slice a 0 c, .int .i64 0, .int .i64 0, fvS] V fun e w' => e = .returned (.tuple #[]) ∧ V = w' := by
  have h1 : IntKind.i64.wrap ((0 : Int) + 1) = 1 := by decide
  go_enter Tryz.func191, Tryz.ntmps191
  go_wp2_with fail
  go_loopw [8] (fun v8 wr => v8 = .int .i64 1 ∧ V = wr) (fun _ _ => 0)
  case atStart => exact ⟨by first | rfl | simp, rfl⟩
  case round =>
    obtain ⟨rfl, rfl⟩ := hrel
    go_wp2_with fail
    go_end0
    exact ⟨rfl, rfl⟩
set_option maxRecDepth 100000 in
theorem sort_zero (a : Option Addr) (c : Nat) (V : World) : Calls Tryz.prog 167 #[.slice a 0 c, .int .i64 0, fvS] V fun e w' => e = .returned (.tuple #[]) ∧ V = w' := by
  have HI : Hid (∀ V : World, Calls Tryz.prog 191 #[.slice a 0 c, .int .i64 0, .int .i64 0, fvS] V fun e w' => e = .returned (.tuple #[]) ∧ V = w') := ins_zero a c
  go_enter Tryz.func167, Tryz.ntmps167
  go_wp2_with fail
  go_loopw [7, 8] (fun v7 v8 wr => v7 = .int .i64 0 ∧ v8 = .int .i64 20 ∧ V = wr) (fun _ _ _ => 0)
  case atStart => exact ⟨by first | rfl | simp, by first | rfl | simp, rfl⟩
  case round =>
    obtain ⟨rfl, rfl, rfl⟩ := hrel
    go_wp2_with fail
    refine (HI.out _).mono ?_
    rintro e w9 ⟨rfl, rfl⟩
    go_wp2_with fail
    go_loopw [6] (fun v6 wr => v6 = .int .i64 20 ∧ V = wr) (fun _ _ => 0)
    case atStart => exact ⟨by first | rfl | simp, rfl⟩
    case round =>
      obtain ⟨rfl, rfl⟩ := hrel
      go_wp2_with fail
      go_end0
      exact ⟨rfl, rfl⟩
/-- entries in place, sorted -/
theorem sortF_any (v : Value) (n B : Nat) (N : Nat → Int) (S : Nat → ByteArray) (hn : n ≤ 1000000000000000) (w : World) (h : w.ownsRow B 54 2 v n (lkL N S n)) :
    Calls Tryz.prog 137 #[v, fvS] w fun e w' => e = .returned (.tuple #[]) ∧ ∃ s, Pm 0 n s ∧ w'.ownsRow B 54 2 v n (lkL (fun p => N (s p)) (fun p => S (s p)) n) ∧ So LkL (EnS N S s) 0 n ∧ Turns (fun z => v.ownBlock = some z) w w' := by
  obtain ⟨a, c, rfl⟩ := kown_slice h
  have HX : Hid (Calls Tryz.prog 167 #[.slice a n c, .int .i64 (n : Int), fvS] w fun e w' => e = .returned (.tuple #[]) ∧ ∃ s, Pm 0 n s ∧ w'.ownsRow B 54 2 (.slice a n c) n (lkL (fun p => N (s p)) (fun p => S (s p)) n) ∧ So LkL (EnS N S s) 0 n ∧ Turns (fun z => (Value.slice a n c).ownBlock = some z) w w') := by
    show Calls _ _ _ _ _
    by_cases h0 : n = 0
    · subst h0
      refine (sort_zero a c w).mono ?_
      rintro e w' ⟨rfl, rfl⟩
      exact ⟨rfl, id, Pm.refl _ _, h, fun p q _ _ h3 => by omega, Turns.bel (Below.refl _ _)⟩
    · obtain ⟨g, cap, e, _⟩ := kown_form h (by omega)
      injection e with e1 _ e3
      subst e1 e3
      obtain ⟨tl, hB, h1, h2, h3, h4⟩ := own_lb h
      refine (stable_any tl g n c n fvS LkL (ins_any tl g n c n (Nat.le_refl _) hn) (sym_any tl g n c n (Nat.le_refl _) hn) N S hn w hB).mono ?_
      rintro e w' ⟨rfl, s, hs, hb, hso, ht⟩
      exact ⟨rfl, s, hs, lb_own hb h1 h2 h3 h4, hso, ⟨ht.os, ht.tape, ht.output, ht.size, fun z hz hq => ht.block z hz fun e => hq (by rw [e]; rfl)⟩⟩
  clear h
  go_enter Tryz.func137, Tryz.ntmps137
  go_wp2_with fail
  refine HX.out.mono ?_
  rintro e w' ⟨rfl, hh⟩
  have HH : Hid _ := hh
  clear hh
  go_wp2_with fail
  go_end0
  exact ⟨rfl, HH.out⟩
set_option maxRecDepth 100000 in
set_option maxHeartbeats 4000000 in
theorem sorted_any (a : Option Addr) (n c : Nat) (N : Nat → Int) (S : Nat → ByteArray) (hn : n * 24 ≤ 140737488355328) (w : World) (hI : IsLkC w a n N S) (ha : a = none → n = 0 ∧ c = 0) :
    Calls Tryz.prog 120 #[.slice a n c] w fun e w' => ∃ v s, e = .returned v ∧ Pm 0 n s ∧ w'.ownsRow w.heap.size 54 2 v n (lkL (fun p => N (s p)) (fun p => S (s p)) n) ∧ So LkL (EnS N S s) 0 n ∧ Below w.heap.size w w' := by
  have HC : Hid (Calls Tryz.prog 136 #[.slice a n c] w fun e w' => ∃ v, e = .returned v ∧ w'.ownsRow w.heap.size 54 2 v n (lkL N S n) ∧ Below w.heap.size w w') := clone_lks a n c N S hn w hI ha
  have hnn : n ≤ 1000000000000000 := by omega
  have HN : Hid (n ≤ 1000000000000000) := hnn
  clear hI ha hn hnn
  go_enter Tryz.func120, Tryz.ntmps120
  go_wp2_with fail
  refine HC.out.mono ?_
  rintro e w1 ⟨v, rfl, ho, hb⟩
  have hlt := ho.lt
  have HS : Hid (_ ∧ ∀ z, v.ownBlock = some z → w.heap.size ≤ z) := ⟨sortF_any v n w.heap.size N S HN.out w1 ho, fun z hz => (hlt z hz).1⟩
  have HB : Hid (Below w.heap.size w w1) := hb
  clear ho hb hlt HC
  go_wp2_with fail
  refine HS.out.1.mono ?_
  rintro e w2 ⟨rfl, s, hs, ho, hso, ht⟩
  have HH : Hid (_ ∧ _ ∧ _ ∧ Below w.heap.size w w2) := ⟨hs, ho, hso, HB.out.trans (ht.below HB.out.size fun z hz => HS.out.2 z hz)⟩
  clear hs ho hso ht
  go_wp2_with fail
  go_ret
  first | exact ⟨_, s, rfl, HH.out.1, HH.out.2.1, HH.out.2.2.1, HH.out.2.2.2⟩ | exact ⟨_, rfl, s, HH.out.1, HH.out.2.1, HH.out.2.2.1, HH.out.2.2.2⟩
end Go.Proofs.YtimjggkdpmgpjaaGreatDoor

namespace Go.Proofs.YtimjggkdpmgpjaaGreatDoor
open Go Go.RowKit Go.Nam
set_option linter.unusedSimpArgs false
set_option linter.unusedVariables false
theorem wpList_append_lks_at {P : Program} {ops : Array Oper} {rest : List Oper} {o : Oper} {a : Act} {w : World} {Q : Exit → Act → World → Prop} (hgd : o.guard = none) (s x : Operand) (t : TypeId)
    (ho : o.op = .call { callee := .builtin .append, args := #[s, x], argTypes := #[t, t] }) (B : Nat) (e : TypeId) (i : TypeInfo) (z : Value) (ht : P.underlying t = some (.slice e)) (hi : P.info? e = some i) (hz : i.zero = some z) (hsize : i.size = 2) (hby : i.bytes = 24) (hzs : z.cells.size = 2)
    (v : Value) (A : List Lk) (k : Nat) (hk : k = A.length) (hs : a.eval s = v) (hown : w.ownsRow B e 2 v k (lkR A)) (b of m c : Nat) (M : List Lk) (hm : m = M.length) (hx : a.eval x = .slice (some ⟨b, of, none⟩) m c) (hA : IsR w b of M) (hn : (A.length + M.length) * 24 ≤ 140737488355328) (hbase : B ≤ w.heap.size)
    (h : ∀ v' w', w'.ownsRow B e 2 v' (k + m) (lkR (A ++ M)) → w.grownBy w' v.ownBlock → (v'.ownBlock = v.ownBlock ∨ v'.ownBlock = some w.heap.size) → wpList P ops Q rest (a.put o.dst v') w') : wpList P ops Q (o :: rest) a w := by
  refine wpList_append_own_at hgd s x t ho B e i z 2 24 ht hi hz hsize hby hzs (by decide) v k (lkR A) hs hown ⟨b, of, none⟩ m c (lkR M) hx (by rw [lkR_len, hm]) (fun j u hu => ?_) (lkR_mem M) (by unfold maxLen; omega) (by omega) hbase fun v' w' h1 h2 h4 => ?_
  · rw [Addr.add_mid]; exact hA j u hu
  · rw [← lkR_app] at h1
    exact h v' w' h1 h2 h4
theorem thoseA (N : Nat → Int) (S : Nat → ByteArray) (k q : Nat) (h : 4 * q < k) (pr : Lk → Bool) : (liR N S (min (4 * (q + 1)) k)).filter pr = (liR N S (min (4 * q) k)).filter pr ++ (liR (shN N q) (shS S q) (inLf k q)).filter pr := by
  rw [← List.filter_append]
  congr 1
  have e1 : min (4 * q) k = 4 * q := by omega
  have e2 : min (4 * (q + 1)) k = 4 * q + inLf k q := by unfold inLf; omega
  rw [e1, e2]
  unfold liR
  rw [List.range_add, List.map_append, List.map_map]
  rfl
section
variable {w : World} {x mf ml mc : Nat} {cp : Option Addr} {top : Int} {H : Nat → Hd} {D : Nat → Nat → Nat → Nat} {n k st : Nat} {N : Nat → Int} {S : Nat → ByteArray}
set_option maxRecDepth 100000 in
set_option maxHeartbeats 8000000 in
theorem IM.thoseD (h : IM w x mf ml mc cp top H D) (hd : Di H D n k st N S) (fn bx : Nat) (pr : Lk → Bool) (ef : ∀ args w, (callFunc fn args).run Tryz.prog w = .ok (.enter fn args) w) (HA : ∀ (i : Int) (s : ByteArray) (V : World), Below w.heap.size w V → Calls Tryz.prog fn #[.agg #[.int .i64 i, .string s], .pointer (some ⟨bx, 0, none⟩)] V fun e w' => e = .returned (.bool (pr (i, s))) ∧ Below V.heap.size V w') :
    Calls Tryz.prog 99 #[.pointer (some ⟨x, 0, none⟩), .agg (nfC (n : Int) 2 (H n).l ((64 * k : Nat) : Int) st), .func (.func fn) #[] #[.pointer (some ⟨bx, 0, none⟩)]] w fun e w' => ∃ v R, e = .returned (.tuple #[v, .int .i64 0]) ∧ w'.ownsRow w.heap.size 54 2 v R.length (lkR R) ∧ SoR R ∧ R.Perm ((liR N S k).filter pr) ∧ Below w.heap.size w w' := by
  have HCT : Hid (∀ V : World, Calls Tryz.prog 51 #[.agg (nfC (n : Int) 2 (H n).l ((64 * k : Nat) : Int) st)] V fun e w' => e = .returned (.int .i64 (k : Int)) ∧ Below V.heap.size V w') := count_any (n : Int) 2 (H n).l k st hd.le
  have HEN : Hid (∀ (q : Nat), 4 * q < k → ∀ V, Below w.heap.size w V → Calls Tryz.prog 80 #[.pointer (some ⟨x, 0, none⟩), .agg (nfC (n : Int) 2 (H n).l ((64 * k : Nat) : Int) st), .int .i64 (q : Int)] V fun e w' => ∃ v, e = .returned (.tuple #[v, .int .i64 0]) ∧ w'.ownsRow V.heap.size 54 2 v (inLf k q) (lkL (shN N q) (shS S q) (inLf k q)) ∧ Below V.heap.size V w') := fun q hq V hV => (h.below hV).entries hd (H n).l q hq
  have HAS : Hid (∀ (i : Int) (s : ByteArray) (V : World), Below w.heap.size w V → Calls Tryz.prog fn #[.agg #[.int .i64 i, .string s], .pointer (some ⟨bx, 0, none⟩)] V fun e w' => e = .returned (.bool (pr (i, s))) ∧ Below V.heap.size V w') := HA
  obtain ⟨i0, hi0, hz0, hz1, hz2⟩ := info_parts infoLk
  have hle := hd.le
  clear h hd HA
  generalize (H n).l = l at *
  generalize ((64 * k : Nat) : Int) = z at *
  have H0 : Hid (Blk (w.alloc (.cells (nfC (n : Int) 2 l z st) 40)) w.heap.size 40 (nfC (n : Int) 2 l z st) ∧ Below w.heap.size w (w.alloc (.cells (nfC (n : Int) 2 l z st) 40)) ∧ (w.alloc (.cells (nfC (n : Int) 2 l z st) 40)).heap.size = w.heap.size + 1) := ⟨Blk.new _ _ _, below_new1 _ _, by simp⟩
  go_enter Tryz.func99, Tryz.ntmps99
  go_wp2_with fail
  generalize (w.alloc (.cells (nfC (n : Int) 2 l z st) 40)) = W1 at *
  go_loopw [8, 9] (fun v8 v9 wr => Hid (∃ (f q : Nat) (A : List Lk), f = 4 * q ∧ v9 = .int .i64 (f : Int) ∧ 4 * q < k + 4 ∧ A = (liR N S (min (4 * q) k)).filter pr ∧ wr.ownsRow (w.heap.size + 1) 54 2 v8 A.length (lkR A) ∧ Below w.heap.size w wr ∧ Below (w.heap.size + 1) W1 wr)) (fun _ v9 _ => k + 4 - (intOf v9).toNat)
  case atStart => exact ⟨0, 0, [], rfl, rfl, by omega, by simp [liR], ⟨rfl, .inl ⟨rfl, rfl⟩⟩, H0.out.2.1, Below.refl _ _⟩
  case round =>
    obtain ⟨WR, rfl⟩ : ∃ u, u = wr := ⟨_, rfl⟩
    obtain ⟨f, q, A, hf, rfl, hq, hA, hown, hbw, hb1⟩ := Hid.out hrel
    obtain ⟨V8, rfl⟩ : ∃ u, u = u8 := ⟨_, rfl⟩
    have f1 : (f : Int) ≤ 20000 := by omega
    have d2 : (f : Int) / 4 = (q : Int) := by omega
    have HQ : Hid (f = 4 * q ∧ 4 * q < k + 4 ∧ A = (liR N S (min (4 * q) k)).filter pr) := ⟨hf, hq, hA⟩
    have HST : Hid (WR.ownsRow (w.heap.size + 1) 54 2 V8 A.length (lkR A) ∧ Below w.heap.size w WR ∧ Below (w.heap.size + 1) W1 WR) := ⟨hown, hbw, hb1⟩
    have b0 : Blk WR w.heap.size 40 (nfC (n : Int) 2 l z st) := H0.out.1.below hb1 (by omega)
    clear hrel hf hq hA hown hbw hb1
    go_wp2_with (first | (refine wpList_load_row (by rfl) 40 _ (by rfl) (w.heap.size) (by rfl) 40 (nfC (n : Int) 2 l z st) (0, 0) _ (by exact b0) Tryz.underlying40 (by rfl) (size_nf.trans (by rfl)) ?_; simp only [Act.put, List.setIfInBounds_toArray, List.set_cons_zero, List.set_cons_succ]) | fail)
    refine (HCT.out _).mono ?_
    rintro e w2 ⟨rfl, hb2⟩
    have HS2 : Hid (w2.ownsRow (w.heap.size + 1) 54 2 V8 A.length (lkR A) ∧ Below w.heap.size w w2 ∧ Below (w.heap.size + 1) W1 w2) := ⟨kownBel HST.out.1 hb2, HST.out.2.1.trans (hb2.mono HST.out.2.1.size), HST.out.2.2.trans (hb2.mono (by have := HST.out.2.2.size; have := H0.out.2.2; omega))⟩
    have b2 : Blk w2 w.heap.size 40 (nfC (n : Int) 2 l z st) := b0.below hb2 b0.lt
    clear hb2 b0 HST
    by_cases c : f < k
    · have c1 : (f : Int) < (k : Int) := by omega
      have H3 := HEN.out q (by have := HQ.out.1; omega) w2 HS2.out.2.1
      go_wp2_with (first | (refine wpList_load_row (by rfl) 40 _ (by rfl) (w.heap.size) (by rfl) 40 (nfC (n : Int) 2 l z st) (0, 0) _ (by exact b2) Tryz.underlying40 (by rfl) (size_nf.trans (by rfl)) ?_; simp only [Act.put, List.setIfInBounds_toArray, List.set_cons_zero, List.set_cons_succ]) | fail)
      refine H3.mono ?_
      rintro e w3 ⟨v, rfl, hv, hb3⟩
      have HM : Hid (0 < inLf k q ∧ inLf k q ≤ 4 ∧ 4 * q + inLf k q ≤ k) := by
        have := HQ.out.1
        unfold inLf
        exact ⟨by omega, by omega, by omega⟩
      obtain ⟨a, cc, rfl, hI, hcc⟩ := own_lks hv
      obtain ⟨g, rfl, hg, hc⟩ := hI HM.out.1
      have HG : Hid (w2.heap.size ≤ g) := (hv.lt g rfl).1
      have HS3 : Hid (w3.ownsRow (w.heap.size + 1) 54 2 V8 A.length (lkR A) ∧ (∀ b, V8.ownBlock = some b → b ≠ g) ∧ (∀ r, r < inLf k q → w3.cell? ⟨g, r * 2, none⟩ = some (.int .i64 (shN N q r)) ∧ w3.cell? ⟨g, r * 2 + 1, none⟩ = some (.string (shS S q r))) ∧ g < w3.heap.size ∧ Below w.heap.size w w3 ∧ Below (w.heap.size + 1) W1 w3) :=
        ⟨kownBel HS2.out.1 hb3, fun b hb => by have := (HS2.out.1.lt b hb).2; have := HG.out; omega, fun r hr => ⟨(hc r hr).1, (hc r hr).2⟩, hg, HS2.out.2.1.trans (hb3.mono HS2.out.2.1.size), HS2.out.2.2.trans (hb3.mono (by have := HS2.out.2.2.size; have := H0.out.2.2; omega))⟩
      clear hI hc hv hb3 hcc hg H3 b2
      obtain ⟨m, hm⟩ : ∃ m, m = inLf k q := ⟨_, rfl⟩
      have HMM : Hid (m = inLf k q) := hm
      have hm4 : (m : Int) ≤ 4 := by have := HM.out; omega
      rw [← hm] at HS3 ⊢
      clear hm
      go_wp2_with fail
      go_loopw [8, 33] (fun v8 v33 wx => Hid (∃ (i : Nat) (A2 : List Lk), i ≤ m ∧ v33 = .int .i64 (i : Int) ∧ A2 = A ++ (liR (shN N q) (shS S q) i).filter pr ∧ wx.ownsRow (w.heap.size + 1) 54 2 v8 A2.length (lkR A2) ∧ (∀ b, v8.ownBlock = some b → b ≠ g) ∧ (∀ r, r < m → wx.cell? ⟨g, r * 2, none⟩ = some (.int .i64 (shN N q r)) ∧ wx.cell? ⟨g, r * 2 + 1, none⟩ = some (.string (shS S q r))) ∧ g < wx.heap.size ∧ Below w.heap.size w wx ∧ Below (w.heap.size + 1) W1 wx)) (fun _ v33 _ => m - (intOf v33).toNat)
      case atStart => exact ⟨0, A, Nat.zero_le _, rfl, by simp [liR], HS3.out.1, HS3.out.2.1, HS3.out.2.2.1, HS3.out.2.2.2.1, HS3.out.2.2.2.2.1, HS3.out.2.2.2.2.2⟩
      case round =>
        obtain ⟨WX, rfl⟩ : ∃ u, u = wr := ⟨_, rfl⟩
        obtain ⟨i, A2, him, rfl, hA2, hown, hne, hcs, hgl, hbw, hb1⟩ := Hid.out hrel
        obtain ⟨V9, rfl⟩ : ∃ u, u = u8 := ⟨_, rfl⟩
        have HST : Hid (A2 = A ++ (liR (shN N q) (shS S q) i).filter pr ∧ WX.ownsRow (w.heap.size + 1) 54 2 V9 A2.length (lkR A2) ∧ (∀ b, V9.ownBlock = some b → b ≠ g) ∧ (∀ r, r < m → WX.cell? ⟨g, r * 2, none⟩ = some (.int .i64 (shN N q r)) ∧ WX.cell? ⟨g, r * 2 + 1, none⟩ = some (.string (shS S q r))) ∧ g < WX.heap.size ∧ Below w.heap.size w WX ∧ Below (w.heap.size + 1) W1 WX) := ⟨hA2, hown, hne, hcs, hgl, hbw, hb1⟩
        clear hrel hA2 hown hne hcs hgl hbw hb1 HS3
        by_cases hi : i < m
        · have i1 : (i : Int) < (m : Int) := by omega
          have i0z : (0 : Int) ≤ (i : Int) := by omega
          have c0 := (HST.out.2.2.2.1 i hi).1
          have c2 := (HST.out.2.2.2.1 i hi).2
          obtain ⟨XN, hXN⟩ : ∃ XN, XN = shN N q i := ⟨_, rfl⟩
          obtain ⟨XS, hXS⟩ : ∃ XS, XS = shS S q i := ⟨_, rfl⟩
          rw [← hXN] at c0
          rw [← hXS] at c2
          have HLI : Hid (liR (shN N q) (shS S q) (i + 1) = liR (shN N q) (shS S q) i ++ [(XN, XS)]) := by
            show _ = _
            unfold liR
            rw [List.range_succ, List.map_append, hXN, hXS]
            rfl
          have HAB : Hid (A2.length ≤ 30000) := by
            have h1 := HST.out.1
            have h2 := HQ.out.2.2
            have h3 : A.length ≤ 4 * q := by
              rw [h2]
              refine Nat.le_trans (List.length_filter_le _ _) ?_
              rw [liR_len]
              omega
            have h4 : ((liR (shN N q) (shS S q) i).filter pr).length ≤ i := by
              refine Nat.le_trans (List.length_filter_le _ _) ?_
              rw [liR_len]
              exact Nat.le_refl _
            have h5 := HQ.out.2.1
            show _ ≤ _
            rw [h1, List.length_append]
            omega
          clear hXN hXS
          go_upto_region 11 with fail
          have HX1 : Hid (Blk (WX.alloc (.cells #[.int .i64 XN, .string XS] 54)) WX.heap.size 54 #[.int .i64 XN, .string XS] ∧ Below WX.heap.size WX (WX.alloc (.cells #[.int .i64 XN, .string XS] 54))) := ⟨Blk.new _ _ _, below_new1 _ _⟩
          clear c0 c2
          generalize (WX.alloc (.cells #[.int .i64 XN, .string XS] 54)) = X1 at *
          have d0 : X1.cell? ⟨WX.heap.size, 0, none⟩ = some (.int .i64 XN) := (HX1.out.1.cell 0).trans rfl
          have d1 : X1.cell? ⟨WX.heap.size, 1, none⟩ = some (.string XS) := (HX1.out.1.cell 1).trans rfl
          have H5 := HAS.out XN XS X1 (HST.out.2.2.2.2.2.1.trans (HX1.out.2.mono HST.out.2.2.2.2.2.1.size))
          go_wp2_with fail
          refine H5.mono ?_
          rintro e w5 ⟨rfl, hb5⟩
          have HB5 : Hid (Below WX.heap.size WX w5 ∧ Blk w5 WX.heap.size 54 #[.int .i64 XN, .string XS]) := ⟨HX1.out.2.trans (hb5.mono HX1.out.2.size), HX1.out.1.below hb5 HX1.out.1.lt⟩
          have HWX : Hid (w.heap.size + 1 ≤ WX.heap.size) := by
            have h1 := HST.out.2.2.2.2.2.2.size
            have h2 := H0.out.2.2
            show _ ≤ _
            omega
          clear d0 d1 H5 hb5
          have HFI : Hid ((liR (shN N q) (shS S q) (i + 1)).filter pr = (liR (shN N q) (shS S q) i).filter pr ++ (if pr (XN, XS) = true then [(XN, XS)] else [])) := by
            show _ = _
            rw [HLI.out, List.filter_append, List.filter_cons, List.filter_nil]
          generalize pr (XN, XS) = pb at *
          cases pb
          · go_wp2_with fail
            go_roundw
            case rel => exact ⟨i + 1, A2, by omega, by first | rfl | go_num | simp, by rw [HFI.out, HST.out.1]; simp, kownBel HST.out.2.1 HB5.out.1, HST.out.2.2.1, fun r hr => ⟨(HB5.out.1.cell (p := ⟨g, r * 2, none⟩) HST.out.2.2.2.2.1).trans (HST.out.2.2.2.1 r hr).1, (HB5.out.1.cell (p := ⟨g, r * 2 + 1, none⟩) HST.out.2.2.2.2.1).trans (HST.out.2.2.2.1 r hr).2⟩, Nat.lt_of_lt_of_le HST.out.2.2.2.2.1 HB5.out.1.size, HST.out.2.2.2.2.2.1.trans (HB5.out.1.mono HST.out.2.2.2.2.2.1.size), HST.out.2.2.2.2.2.2.trans (HB5.out.1.mono HWX.out)⟩
            case measure => simp [intOf]; omega
          · have d0 : w5.cell? ⟨WX.heap.size, 0, none⟩ = some (.int .i64 XN) := (HB5.out.2.cell 0).trans rfl
            have d1 : w5.cell? ⟨WX.heap.size, 1, none⟩ = some (.string XS) := (HB5.out.2.cell 1).trans rfl
            have HO6 : Hid ((w5.alloc (.cells #[.int .i64 XN, .string XS] 54)).ownsRow (w.heap.size + 1) 54 2 V9 A2.length (lkR A2)) := (kownBel HST.out.2.1 HB5.out.1).alloc _
            have HX6 : Hid (IsR (w5.alloc (.cells #[.int .i64 XN, .string XS] 54)) w5.heap.size 0 [(XN, XS)]) := fun j u hu => by
              have := cells_new2L w5 (.int .i64 XN) (.string XS) 54 j u hu
              rwa [Addr.add_mid] at this
            have HBD : Hid ((A2.length + [((XN, XS) : Lk)].length) * 24 ≤ 140737488355328) := by
              have := HAB.out
              show _ ≤ _
              simp
              omega
            have HB6 : Hid (Below WX.heap.size WX (w5.alloc (.cells #[.int .i64 XN, .string XS] 54))) := HB5.out.1.alloc HB5.out.1.size _
            have HSZ : Hid (w.heap.size + 1 ≤ (w5.alloc (.cells #[.int .i64 XN, .string XS] 54)).heap.size) := Nat.le_trans HWX.out HB6.out.size
            go_wp2_with (first | (refine wpList_append_lks_at (by rfl) _ _ 151 (by rfl) (w.heap.size + 1) 54 i0 (.agg #[.int .i64 0, .string ⟨#[]⟩]) Tryz.underlying151 hi0 hz0 hz1 hz2 rfl V9 A2 A2.length rfl (by rfl) (by exact HO6.out) w5.heap.size 0 1 1 [(XN, XS)] rfl (by rfl) (by exact HX6.out) HBD.out HSZ.out (fun v7 U7 ho7 hg7 hl7 => ?_); simp only [Act.put, List.setIfInBounds_toArray, List.set_cons_zero, List.set_cons_succ]) | fail)
            have HB7 : Hid (Below (w.heap.size + 1) (w5.alloc (.cells #[.int .i64 XN, .string XS] 54)) U7) := (Below.refl _ _).grown hg7 HSZ.out (fun b hb => (HO6.out.lt b hb).1)
            have HC7 : Hid (∀ r v, r < m → WX.cell? ⟨g, v, none⟩ = U7.cell? ⟨g, v, none⟩) := fun r v hr => by
              have h1 := HST.out.2.2.2.2.1
              have h2 : U7.heap[g]? = WX.heap[g]? := (hg7.block g (by have := HB6.out.size; omega) (fun e => HST.out.2.2.1 g e.symm rfl)).trans (HB6.out.block g h1)
              exact (World.cell?_of_block (a := ⟨g, v, none⟩) h2).symm
            go_roundw
            case rel => exact ⟨i + 1, A2 ++ [(XN, XS)], by omega, by first | rfl | go_num | simp, by rw [HFI.out, HST.out.1, List.append_assoc]; rfl, by rw [List.length_append]; exact ho7, fun b hb => by
              rcases hl7 with h | h
              · exact HST.out.2.2.1 b (h ▸ hb)
              · rw [h] at hb
                have h1 := HST.out.2.2.2.2.1
                have h2 := HB6.out.size
                injection hb with hb
                omega, fun r hr => ⟨(HC7.out r _ hr).symm.trans (HST.out.2.2.2.1 r hr).1, (HC7.out r _ hr).symm.trans (HST.out.2.2.2.1 r hr).2⟩, by have := HST.out.2.2.2.2.1; have := HB6.out.size; have := HB7.out.size; omega, (HST.out.2.2.2.2.2.1.trans (HB6.out.mono HST.out.2.2.2.2.2.1.size)).trans (HB7.out.mono (by omega)), (HST.out.2.2.2.2.2.2.trans (HB6.out.mono HWX.out)).trans HB7.out⟩
            case measure => simp [intOf]; omega
        · have i1 : ¬ (i : Int) < (m : Int) := by omega
          go_wp2_with fail
          go_roundw
          case rel => exact ⟨f + 4, q + 1, A2, by have := HQ.out.1; omega, by first | rfl | go_num | simp, by have := HQ.out.1; omega, by
            obtain rfl : i = m := by omega
            rw [HST.out.1, HQ.out.2.2]
            rw [thoseA N S k q (by have := HQ.out.1; omega) pr, ← HMM.out], HST.out.2.1, HST.out.2.2.2.2.2.1, HST.out.2.2.2.2.2.2⟩
          case measure => simp [intOf]; omega
    · have c1 : ¬ (f : Int) < (k : Int) := by omega
      have HAK : Hid (A = (liR N S k).filter pr) := by
        have h1 := HQ.out.1
        have h2 := HQ.out.2.2
        rw [show min (4 * q) k = k by omega] at h2
        exact h2
      have HAL : Hid (A.length ≤ k) := by
        show _ ≤ _
        rw [HAK.out]
        refine Nat.le_trans (List.length_filter_le _ _) ?_
        rw [liR_len]
        exact Nat.le_refl _
      have hof := HS2.out.1
      rw [li_of A, liR_cells, liR_len] at hof
      obtain ⟨a, cc, e8, hIs, hcc⟩ := own_lks hof
      have hnil : a = none → A.length = 0 ∧ cc = 0 := fun h0 => by
        rcases hof.2 with ⟨hv, hn0⟩ | ⟨g', cap', cur, hv, _⟩
        · rw [e8] at hv
          simp at hv
          exact ⟨hn0, hv.2.2⟩
        · rw [e8, h0] at hv
          cases hv
      have hIC : IsLkC w2 a A.length (fun i => (A.getD i (0, ⟨#[]⟩)).1) (fun i => (A.getD i (0, ⟨#[]⟩)).2) := fun i hi => by
        obtain ⟨g', h1, h2, h3⟩ := hIs (by omega)
        exact ⟨g', 0, h1, h2, by rw [Nat.zero_add]; exact (h3 i hi).1, by rw [Nat.zero_add]; exact (h3 i hi).2⟩
      have HSO := sorted_any a A.length cc _ _ (by have := HAL.out; omega) w2 hIC hnil
      subst e8
      clear hof hIs hcc hnil hIC
      go_wp2_with fail
      refine HSO.mono ?_
      rintro e w3 ⟨v, sg, rfl, hpm, hov, hso, hb3⟩
      have HR : Hid (∃ R, w3.ownsRow w.heap.size 54 2 v R.length (lkR R) ∧ SoR R ∧ R.Perm ((liR N S k).filter pr)) := by
        refine ⟨liR (fun p => (A.getD (sg p) (0, ⟨#[]⟩)).1) (fun p => (A.getD (sg p) (0, ⟨#[]⟩)).2) A.length, ?_, so_soR hso, ?_⟩
        · rw [liR_len, liR_cells]
          exact kown_mono hov HS2.out.2.1.size
        · have h1 := en_perm (fun i => (A.getD i (0, ⟨#[]⟩)).1) (fun i => (A.getD i (0, ⟨#[]⟩)).2) hpm
          rw [← li_of A, HAK.out] at h1
          rw [HAK.out]
          exact h1
      have HBE : Hid (Below w.heap.size w w3) := HS2.out.2.1.trans (hb3.mono HS2.out.2.1.size)
      clear hpm hov hso hb3
      go_wp2_with fail
      go_ret2
      obtain ⟨R, r1, r2, r3⟩ := HR.out
      exact ⟨v, R, rfl, r1, r2, r3, HBE.out⟩
end
end Go.Proofs.YtimjggkdpmgpjaaGreatDoor

namespace Go.Proofs.YtimjggkdpmgpjaaGreatDoor
open Go Go.RowKit Go.Nam
set_option linter.unusedSimpArgs false
set_option linter.unusedVariables false
set_option maxRecDepth 100000 in
set_option maxHeartbeats 4000000 in
theorem lite_empty (s : ByteArray) (w : World) : Calls Tryz.prog 91 #[.string s, .string ⟨#[]⟩] w fun e w' => e = .returned (.bool true) ∧ w' = w := by
  go_enter Tryz.func91, Tryz.ntmps91
  go_wp2_with fail
  go_ret
  exact ⟨by simp, rfl⟩
set_option maxHeartbeats 4000000 in
theorem hasPrefix_empty (s : ByteArray) (w : World) : Calls Tryz.prog 55 #[.string s, .string ⟨#[]⟩] w fun e w' => e = .returned (.bool true) ∧ w' = w := by
  have HL : Hid (∀ w : World, Calls Tryz.prog 91 #[.string s, .string ⟨#[]⟩] w fun e w' => e = .returned (.bool true) ∧ w' = w) := lite_empty s
  go_enter Tryz.func55, Tryz.ntmps55
  go_wp2_with fail
  refine (HL.out _).mono ?_
  rintro e w1 ⟨rfl, rfl⟩
  go_wp2_with fail
  go_ret
  exact ⟨rfl, rfl⟩
set_option maxRecDepth 100000 in
set_option maxHeartbeats 4000000 in
theorem begins1_empty (i : Int) (s : ByteArray) (bx : Nat) (w : World) (hb : w.cell? ⟨bx, 0, none⟩ = some (.string ⟨#[]⟩)) (hl : bx < w.heap.size) : Calls Tryz.prog 117 #[.agg #[.int .i64 i, .string s], .pointer (some ⟨bx, 0, none⟩)] w fun e w' => e = .returned (.bool true) ∧ Below w.heap.size w w' := by
  have HL : Hid (∀ w : World, Calls Tryz.prog 55 #[.string s, .string ⟨#[]⟩] w fun e w' => e = .returned (.bool true) ∧ w' = w) := hasPrefix_empty s
  have b0 : Blk (w.alloc (.cells #[.int .i64 i, .string s] 54)) w.heap.size 54 #[.int .i64 i, .string s] := Blk.new _ _ _
  have hB : Below w.heap.size w (w.alloc (.cells #[.int .i64 i, .string s] 54)) := below_new1 _ _
  have c1 : (w.alloc (.cells #[.int .i64 i, .string s] 54)).cell? ⟨w.heap.size, 1, none⟩ = some (.string s) := (b0.cell 1).trans rfl
  have c2 : (w.alloc (.cells #[.int .i64 i, .string s] 54)).cell? ⟨bx, 0, none⟩ = some (.string ⟨#[]⟩) := (hB.cell (p := ⟨bx, 0, none⟩) hl).trans hb
  have HB : Hid (Below w.heap.size w (w.alloc (.cells #[.int .i64 i, .string s] 54))) := hB
  clear hb hB b0
  go_enter Tryz.func117, Tryz.ntmps117
  go_wp2_with fail
  refine (HL.out _).mono ?_
  rintro e w1 ⟨rfl, hw⟩
  subst hw
  go_wp2_with fail
  go_ret
  exact ⟨rfl, HB.out⟩
section
variable {w : World} {x mf ml mc : Nat} {cp : Option Addr} {top : Int} {H : Nat → Hd} {D : Nat → Nat → Nat → Nat} {n k st : Nat} {N : Nat → Int} {S : Nat → ByteArray}
set_option maxRecDepth 100000 in
set_option maxHeartbeats 4000000 in
theorem IM.beginsAll (h : IM w x mf ml mc cp top H D) (hd : Di H D n k st N S) : Calls Tryz.prog 96 #[.pointer (some ⟨x, 0, none⟩), .int .i64 (n : Int), .string ⟨#[]⟩] w fun e w' => ∃ v R, e = .returned (.tuple #[v, .int .i64 0]) ∧ w'.ownsRow w.heap.size 54 2 v R.length (lkR R) ∧ SoR R ∧ R.Perm (liR N S k) ∧ Below w.heap.size w w' := by
  have hzi : ∀ w, (zeroValue 40).run Tryz.prog w = .ok (.agg nf0) w := zero_nf
  have HDR : Hid (∀ V, Below w.heap.size w V → Calls Tryz.prog 48 #[.pointer (some ⟨x, 0, none⟩), .int .i64 (n : Int)] V fun e w' => e = .returned (.tuple #[.agg (nfC (n : Int) 2 (H n).l ((64 * k : Nat) : Int) st), .int .i64 0]) ∧ Below V.heap.size V w') := fun V hV => (h.below hV).dirD hd
  have HTH : Hid (∀ V, Below w.heap.size w V → V.cell? ⟨w.heap.size, 0, none⟩ = some (.string ⟨#[]⟩) → w.heap.size < V.heap.size → Calls Tryz.prog 99 #[.pointer (some ⟨x, 0, none⟩), .agg (nfC (n : Int) 2 (H n).l ((64 * k : Nat) : Int) st), .func (.func 117) #[] #[.pointer (some ⟨w.heap.size, 0, none⟩)]] V fun e w' => ∃ v R, e = .returned (.tuple #[v, .int .i64 0]) ∧ w'.ownsRow V.heap.size 54 2 v R.length (lkR R) ∧ SoR R ∧ R.Perm ((liR N S k).filter fun _ => true) ∧ Below V.heap.size V w') := fun V hV hc hl =>
    (h.below hV).thoseD hd 117 w.heap.size (fun _ => true) (enters_of Tryz.func117 (by kernel_rfl) rfl) fun i s U hU => begins1_empty i s w.heap.size U ((hU.cell (p := ⟨w.heap.size, 0, none⟩) hl).trans hc) (by have := hU.size; omega)
  clear h hd
  generalize (H n).l = l at *
  generalize ((64 * k : Nat) : Int) = z at *
  have hb1 : Below w.heap.size w (w.alloc (.cells #[.string ⟨#[]⟩] 9)) := below_new1 _ _
  have p1 : Blk (w.alloc (.cells #[.string ⟨#[]⟩] 9)) w.heap.size 9 #[.string ⟨#[]⟩] := Blk.new _ _ _
  have H1 := HDR.out _ hb1
  clear HDR
  go_enter Tryz.func96, Tryz.ntmps96
  go_wp2_with fail
  generalize (w.alloc (.cells #[.string ⟨#[]⟩] 9)) = w1 at *
  refine H1.mono ?_
  rintro e w2 ⟨rfl, hb2⟩
  have u1 : Blk (w2.alloc (.cells nf0 40)) w2.heap.size 40 nf0 := Blk.new _ _ _
  have u2 := u1.set (nfC (n : Int) 2 l z st)
  have hb12 := hb1.trans (hb2.mono hb1.size)
  have hB : Below w.heap.size w ((w2.alloc (.cells nf0 40)).setRow w2.heap.size (nfC (n : Int) 2 l z st)) := below_setRow (hb12.alloc hb12.size _) hb12.size _
  have p2 := p1.below hb2 p1.lt
  have p3 : Blk ((w2.alloc (.cells nf0 40)).setRow w2.heap.size (nfC (n : Int) 2 l z st)) w.heap.size 9 #[.string ⟨#[]⟩] := (p2.alloc _).other _ (by have := p2.lt; omega)
  have H4 := HTH.out _ hB ((p3.cell 0).trans rfl) p3.lt
  have HB : Hid (Below w.heap.size w ((w2.alloc (.cells nf0 40)).setRow w2.heap.size (nfC (n : Int) 2 l z st))) := hB
  clear hb1 hb2 hb12 H1 p1 p2 p3 hB HTH
  go_wp2_with (first | (refine wpList_store_row (by rfl) 40 _ _ (by rfl) (w2.heap.size) (nfC (n : Int) 2 l z st) (by rfl) (by rfl) 40 (nf0) (by exact u1) (size_nf.trans (by rfl)) (by rfl) (nf_all _ _ _ _ _) ?_; simp only [Act.put, List.setIfInBounds_toArray, List.set_cons_zero, List.set_cons_succ]) | (refine wpList_load_row (by rfl) 40 _ (by rfl) (w2.heap.size) (by rfl) 40 (nfC (n : Int) 2 l z st) (0, 0) _ (by exact u2) Tryz.underlying40 (by rfl) (size_nf.trans (by rfl)) ?_; simp only [Act.put, List.setIfInBounds_toArray, List.set_cons_zero, List.set_cons_succ]) | fail)
  refine H4.mono ?_
  rintro e w5 ⟨v, R, rfl, ho, hs, hp, hb5⟩
  have HR : Hid (w5.ownsRow w.heap.size 54 2 v R.length (lkR R) ∧ SoR R ∧ R.Perm (liR N S k) ∧ Below w.heap.size w w5) := ⟨kown_mono ho HB.out.size, hs, by rw [List.filter_eq_self.2 (fun _ _ => rfl)] at hp; exact hp, HB.out.trans (hb5.mono HB.out.size)⟩
  clear ho hs hp hb5 H4
  go_wp2_with fail
  go_ret2
  exact ⟨v, R, rfl, HR.out.1, HR.out.2.1, HR.out.2.2.1, HR.out.2.2.2⟩
set_option maxRecDepth 100000 in
set_option maxHeartbeats 4000000 in
theorem IM.listD (h : IM w x mf ml mc cp top H D) (hd : Di H D n k st N S) : Calls Tryz.prog 60 #[.pointer (some ⟨x, 0, none⟩), .int .i64 (n : Int)] w fun e w' => ∃ v R, e = .returned (.tuple #[v, .int .i64 0]) ∧ w'.ownsRow w.heap.size 54 2 v R.length (lkR R) ∧ SoR R ∧ R.Perm (liR N S k) ∧ Below w.heap.size w w' := by
  have H1 := h.beginsAll hd
  clear h hd
  go_enter Tryz.func60, Tryz.ntmps60
  go_wp2_with fail
  refine H1.mono ?_
  rintro e w5 ⟨v, R, rfl, ho, hs, hp, hb5⟩
  have HR : Hid (w5.ownsRow w.heap.size 54 2 v R.length (lkR R) ∧ SoR R ∧ R.Perm (liR N S k) ∧ Below w.heap.size w w5) := ⟨ho, hs, hp, hb5⟩
  clear ho hs hp hb5 H1
  go_wp2_with fail
  go_ret2
  exact ⟨v, R, rfl, HR.out.1, HR.out.2.1, HR.out.2.2.1, HR.out.2.2.2⟩
end
end Go.Proofs.YtimjggkdpmgpjaaGreatDoor
