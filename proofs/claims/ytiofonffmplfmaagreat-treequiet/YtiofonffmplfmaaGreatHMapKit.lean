/- Maps in the memory, told by a list of keys and elements: a look-up, a new key stored. No program in it: the key's type comes with how two keys compare. -/
import Derived.Test.YtiofonffmplfmaaGreatHDigText
import Derived.Test.YtiofonffmplfmaaGreatHDigPress
import Derived.Test.YtiofonffmplfmaaGreatHSegsIf
import Derived.Deep.RegionLaw
import Derived.Deep.Heap
import Derived.Handy
import Derived.MapKept

namespace Go.Proofs.YtiofonffmplfmaaGreat
theorem sgLHMapKit : (∀ (α : Type) (a : α) (l r : List α), (a :: l) ++ r = a :: (l ++ r)) ∧ (∀ (α : Type) (l : List α), [] ++ l = l) ∧ (∀ (α : Type) (l : List α), l ++ [] = l) ∧ (∀ (α β : Type) (f : α → Option β) (a : α) (l : List α), (a :: l).filterMap f = match f a with | none => l.filterMap f | some b => b :: l.filterMap f) ∧ (∀ (α β : Type) (f : α → Option β), [].filterMap f = []) ∧ (∀ (α : Type) (l : List α) (i : Nat), l.toArray[i]? = l[i]?) ∧ (∀ (α : Type) (a : α) (l : List α), (a :: l)[0]? = some a) ∧ (∀ (α : Type) (a : α) (l : List α) (i : Nat), (a :: l)[i + 1]? = l[i]?) :=
  ⟨fun _ _ _ _ => List.cons_append, fun _ _ => List.nil_append _, fun _ _ => List.append_nil _, fun _ _ _ _ _ => List.filterMap_cons, fun _ _ _ => List.filterMap_nil, fun _ _ _ => List.getElem?_toArray, fun _ _ _ => List.getElem?_cons_zero, fun _ _ _ _ => List.getElem?_cons_succ⟩
theorem sgPHMapKit : (∀ (α : Type) (l : List α) (i : Nat) (a : α), l.toArray.setIfInBounds i a = (l.set i a).toArray) ∧ (∀ (α : Type) (a b : α) (l : List α), (a :: l).set 0 b = b :: l) ∧ (∀ (α : Type) (a b : α) (l : List α) (i : Nat), (a :: l).set (i + 1) b = a :: l.set i b) :=
  ⟨fun _ _ _ _ => List.setIfInBounds_toArray _ _ _, fun _ _ _ _ => List.set_cons_zero, fun _ _ _ _ _ => List.set_cons_succ⟩
end Go.Proofs.YtiofonffmplfmaaGreat
namespace Go.Proofs.YtiofonffmplfmaaGreat
open Go.RowKit
set_option linter.unusedSimpArgs false
set_option linter.unusedVariables false

/-- no block but g is changed -/
def Keeps (g : Nat) (w w' : World) : Prop := Below g w w' ∧ ∀ k, k ≠ g → k < w.heap.size → w'.heap[k]? = w.heap[k]?
theorem Keeps.refl (g : Nat) (w : World) : Keeps g w w := ⟨Below.refl _ _, fun _ _ _ => rfl⟩
theorem Keeps.trans {g : Nat} {a b c : World} (h : Keeps g a b) (k : Keeps g b c) : Keeps g a c :=
  ⟨h.1.trans k.1, fun i hi hl => (k.2 i hi (Nat.lt_of_lt_of_le hl h.1.size)).trans (h.2 i hi hl)⟩
theorem Keeps.of {g : Nat} {w w' : World} (h : Below w.heap.size w w') (hg : g ≤ w.heap.size) : Keeps g w w' := ⟨h.mono hg, fun k _ hl => h.block k hl⟩
theorem Keeps.drew {g : Nat} {w w' : World} (h : Keeps g w w') : Keeps g w w'.drew := ⟨h.1.drew, h.2⟩
theorem Keeps.setRow {g : Nat} {w w' : World} (h : Keeps g w w') (cs : Array Value) : Keeps g w (w'.setRow g cs) :=
  ⟨below_setRow h.1 (Nat.le_refl _) cs, fun k hk hl => (setRow_other w' g k cs hk).trans (h.2 k hk hl)⟩
theorem Keeps.blk {g k t : Nat} {w w' : World} {cs : Array Value} (h : Keeps g w w') (hb : Blk w k t cs) (hk : k ≠ g) : Blk w' k t cs := (h.2 k hk hb.lt).trans hb
theorem Keeps.setCells {g : Nat} {w : World} : ∀ (vs : List Value) (o : Nat) (w' : World), Keeps g w w' → Keeps g w (w'.setCells g o vs)
  | [], _, _, h => h
  | v :: vs, o, w', h => by
    rw [World.setCells]
    refine Keeps.setCells vs (o + 1) _ ⟨h.1.setCell (p := ⟨g, o, none⟩) (Nat.le_refl _) v, fun k hk hl => ?_⟩
    rw [← h.2 k hk hl]
    exact Deep.blk_setCell_other w' ⟨g, o, none⟩ v k hk
theorem hash_range_chain {w : World} {g m : Nat} {c p : Nat → Nat} (h : Blk w g 241 (va 41 (hashV c p m))) : w.rangeAt g 0 ((List.range 8).map (iv .u32 c)) := fun j v hv => by
  refine h.range 0 8 (by decide) j v ?_
  rw [← hv]
  rfl
theorem hash_range_piece {w : World} {g m : Nat} {c p : Nat → Nat} (h : Blk w g 241 (va 41 (hashV c p m))) : w.rangeAt g 8 ((List.range 32).map (iv .u8 p)) := fun j v hv => by
  refine h.range 8 32 (by decide) j v ?_
  rw [← hv]
  rfl
/-- an array in the midst of a block, loaded -/
theorem wpList_load_fa {P : Program} {ops : Array Oper} {rest : List Oper} {op : Oper} {a : Act} {w : World} {Q : Exit → Act → World → Prop} (hgd : op.guard = none) (ty : TypeId) (x : Operand) (ho : op.op = .load ty x)
    (b o n : Nat) (f : Nat → Value) (hx : a.eval x = .pointer (some ⟨b, o, none⟩)) (d : TypeDesc) (hc : w.rangeAt b o ((List.range n).map f))
    (hu : P.underlying ty = some d) (hd : d.isRow = true) (hi : (P.info? ty).map (·.size) = some n)
    (h : wpList P ops Q rest (a.put op.dst (.agg (va n f))) w) : wpList P ops Q (op :: rest) a w :=
  wpList_load_mid hgd ty x ho b o hx _ d hc hu hd (hi.trans (by simp)) h
theorem yields_load_fa {P : Program} {ops : Array Oper} {S : World → Prop} {op : Oper} {a : Act} (hw : Region.wanted op (yielded ops a.tmps) = true) (ty : TypeId) (x : Operand) (ho : op.op = .load ty x)
    (b o n : Nat) (f : Nat → Value) (hx : a.eval x = .pointer (some ⟨b, o, none⟩)) (d : TypeDesc) (hS : ∀ w, S w → w.rangeAt b o ((List.range n).map f))
    (hu : P.underlying ty = some d) (hd : d.isRow = true) (hi : (P.info? ty).map (·.size) = some n) : YieldsIf P ops S op (.agg (va n f)) a :=
  yieldsIf_load_mid hw ty x ho b o hx _ d hS hu hd (hi.trans (by simp))
/-- the hasher holds the first m bytes of the text t -/
def Holds (w : World) (g : Nat) (c0 t : Nat → Nat) (m : Nat) : Prop :=
  ∃ p, okP p ∧ (∀ j, j < m % 32 → p j = t (32 * (m / 32) + j)) ∧ Blk w g 241 (va 41 (hashV (runN c0 t (m / 32)) p m))
theorem hash_congr {c d p : Nat → Nat} {m : Nat} (h : ∀ i, i < 8 → c i = d i) : va 41 (hashV c p m) = va 41 (hashV d p m) := va_congr fun i _ => by
  unfold hashV
  by_cases h1 : i < 8
  · rw [if_pos h1, if_pos h1, h i h1]
  · rw [if_neg h1, if_neg h1]
theorem holds_full {w : World} {g M q : Nat} {c0 t p K0 K1 : Nat → Nat} (hK0 : runN c0 t q = K0) (hK1 : pressN K0 p = K1) (hp : okP p) (hpt : ∀ j, j < 32 → p j = t (32 * q + j)) (hM : M = 32 * (q + 1))
    (hB : Blk w g 241 (va 41 (hashV K1 p M))) : Holds w g c0 t M := by
  refine ⟨p, hp, fun j hj => absurd hj (by omega), ?_⟩
  rw [show M / 32 = q + 1 from by omega]
  have e : va 41 (hashV (runN c0 t (q + 1)) p M) = va 41 (hashV K1 p M) := hash_congr fun i hi => by
    rw [← hK1, ← hK0]
    exact press_congr (fun _ _ => rfl) (fun j hj => (hpt j hj).symm) i hi
  rw [e]
  exact hB
theorem holds_part {w : World} {g M q r : Nat} {c0 t p K0 : Nat → Nat} (hK0 : runN c0 t q = K0) (hp : okP p) (hpt : ∀ j, j < r → p j = t (32 * q + j)) (hr : r < 32) (hM : M = 32 * q + r)
    (hB : Blk w g 241 (va 41 (hashV K0 p M))) : Holds w g c0 t M := by
  have e1 : M / 32 = q := by omega
  have e2 : M % 32 = r := by omega
  refine ⟨p, hp, ?_, ?_⟩
  · rw [e1, e2]
    exact hpt
  · rw [e1, hK0]
    exact hB
theorem drop_size (s : ByteArray) (n L : Nat) (h : s.size = L) (hn : n ≤ L) : (s.extract n L).size = L - n := by
  rw [ByteArray.size_extract, h]
  omega
theorem drop_at (s : ByteArray) (n L j : Nat) (h : s.size = L) : byteAt (s.extract n L) j = byteAt s (n + j) := by
  rw [← h]
  exact byteAt_drop s n j
theorem setCell_row {w : World} {g t i : Nat} {cs : Array Value} (h : Blk w g t cs) (v : Value) : w.setCell ⟨g, i, none⟩ v = w.setRow g (cs.setIfInBounds i v) := setCell_eq_setRow w g i cs t (0, 0) v h

set_option maxRecDepth 100000 in
set_option maxHeartbeats 4000000 in
theorem write_any (g m : Nat) (c0 t : Nat → Nat) (s : ByteArray) (hc0 : okC c0) (ht : ∀ i, t i < 256) (hsz : m + s.size ≤ 140737488351232) (hs : ∀ j, j < s.size → t (m + j) = byteAt s j) (w : World) (h : Holds w g c0 t m) :
    Calls Tryz.prog 115 #[.pointer (some ⟨g, 0, none⟩), .string s] w fun e w' => e = .returned (.tuple #[]) ∧ Holds w' g c0 t (m + s.size) ∧ Keeps g w w' := by
  have HT : Hid (∀ i, t i < 256) := ht
  obtain ⟨k, hk⟩ : ∃ k, k = s.size := ⟨_, rfl⟩
  have HS0 : Hid (∀ j, j < k → t (m + j) = byteAt s j) := by rw [hk]; exact hs
  have HKK : Hid (k = s.size) := hk
  rw [← hk] at hsz ⊢
  have hgl : g < w.heap.size := by obtain ⟨p, _, _, hb⟩ := h; exact hb.lt
  clear hs hk ht
  go_enter Tryz.func115, Tryz.ntmps115
  go_wp2_with fail
  go_loopw [1] (fun v wr => ∃ (a : Nat) (sv : ByteArray), a ≤ k ∧ v = .string sv ∧ sv.size = k - a ∧ (∀ j, j < k - a → t (m + a + j) = byteAt sv j) ∧ Holds wr g c0 t (m + a) ∧ Keeps g w wr) (fun v _ => match v with | .string x => x.size | _ => 0)
  case atStart => exact ⟨0, s, Nat.zero_le _, rfl, HKK.out.symm, fun j hj => HS0.out j hj, h, Keeps.refl _ _⟩
  case round =>
    clear h HS0
    obtain ⟨a, sv, ha, rfl, hsv, hbytes, hH, hkeep⟩ := hrel
    by_cases hlt : a < k
    · obtain ⟨p, hp, hpt, hB⟩ := hH
      obtain ⟨M, hM⟩ : ∃ M, M = m + a := ⟨_, rfl⟩
      rw [← hM] at hpt hB hbytes
      obtain ⟨r, hr⟩ : ∃ r, r = M % 32 := ⟨_, rfl⟩
      obtain ⟨q, hq⟩ : ∃ q, q = M / 32 := ⟨_, rfl⟩
      rw [← hr, ← hq] at hpt
      rw [← hq] at hB
      obtain ⟨L, hL⟩ : ∃ L, L = sv.size := ⟨_, rfl⟩
      obtain ⟨n, hn⟩ : ∃ n, n = Nat.min L (32 - r) := ⟨_, rfl⟩
      have hr31 : r ≤ 31 := by omega
      have hL1 : 1 ≤ L := by omega
      have hn2 : n ≤ L ∧ n ≤ 32 - r ∧ 1 ≤ n ∧ (n = L ∨ n = 32 - r) := by
        have e : n = min L (32 - r) := hn
        omega
      have e1 : (M : Int) % 32 = (r : Int) := by omega
      have e2 : (M : Int).tmod 32 = (r : Int) := by rw [Int.tmod_eq_emod_of_nonneg (by omega)]; exact e1
      have r0 : (0 : Int) ≤ (r : Int) := by omega
      have r1 : (r : Int) ≤ 32 := by omega
      have r2 : ¬ 32 = r := by omega
      have t1 : decide ((0 : Int) < (L : Int)) = true := decide_eq_true (by omega)
      have cm : wr.cell? ⟨g, 40, none⟩ = some (.int .i64 (M : Int)) := hB.cv (by decide)
      have HALL : Hid (M = m + a ∧ r = M % 32 ∧ q = M / 32 ∧ L = sv.size ∧ sv.size = k - a ∧ (∀ j, j < k - a → t (M + j) = byteAt sv j) ∧ okP p ∧ (∀ j, j < r → p j = t (32 * q + j))) := ⟨hM, hr, hq, hL, hsv, hbytes, hp, hpt⟩
      have HN : Hid (n = Nat.min sv.size (32 - r)) := by rw [← hL]; exact hn
      have HFIT : Hid (8 + r + n ≤ (va 41 (hashV (runN c0 t q) p M)).size) := by
        show _ ≤ _
        rw [va_size]
        omega
      rw [← hL] at hsv
      have hL' : sv.size = L := hL.symm
      clear hM hr hq hL hsv hbytes hp hpt hn
      generalize HK0 : runN c0 t q = K0 at *
      have HK0' : Hid (runN c0 t q = K0) := HK0
      clear HK0
      go_wp2_with fail
      go_region_law (refine step_copy_string rfl (.tmp 18) (.tmp 19) 165 9 rfl 5 Tryz.underlying165 sizeByte g (8 + r) (32 - r) (32 - r) sv (by simp [Act.eval, Act.put]) (by simp [Act.eval, Act.put]) (va 41 (hashV K0 p M)) 241 hB n HN.out HFIT.out ?_)
      have b1 : Blk (wr.drew.setRow g (splice (va 41 (hashV K0 p M)).toList (8 + r) (bytesL (byteAt sv) n)).toArray) g 241 (va 41 (hashV K0 (laidN p r n (byteAt sv)) M)) := by
        have := hB.drew.set (splice (va 41 (hashV K0 p M)).toList (8 + r) (bytesL (byteAt sv) n)).toArray
        rw [hash_copy K0 p M r n (byteAt sv) (by omega)] at this
        rw [hash_copy K0 p M r n (byteAt sv) (by omega)]
        exact this
      have keep1 : Keeps g w (wr.drew.setRow g (splice (va 41 (hashV K0 p M)).toList (8 + r) (bytesL (byteAt sv) n)).toArray) := hkeep.drew.setRow _
      generalize wr.drew.setRow g (splice (va 41 (hashV K0 p M)).toList (8 + r) (bytesL (byteAt sv) n)).toArray = w1 at *
      have cm1 : w1.cell? ⟨g, 40, none⟩ = some (.int .i64 (M : Int)) := b1.cv (by decide)
      have f1 := b1.frozen 40
      have b2 := b1.put 40 (.int .i64 ((M + n : Nat) : Int))
      rw [va_set, hash_many] at b2
      have keep2 : Keeps g w (w1.setCell ⟨g, 40, none⟩ (.int .i64 ((M + n : Nat) : Int))) := by
        rw [setCell_row b1]
        exact keep1.setRow _
      have hp' : okP (laidN p r n (byteAt sv)) := fun j hj => by
        unfold laidN
        split
        · exact byteAt_lt _ _
        · exact HALL.out.2.2.2.2.2.2.1 j hj
      have hpt' : ∀ j, j < r + n → laidN p r n (byteAt sv) j = t (32 * q + j) := fun j hj => by
        obtain ⟨hM, hr, hq, hL, hsv, hbytes, hp, hpt⟩ := HALL.out
        unfold laidN
        by_cases h1 : r ≤ j ∧ j < r + n
        · rw [if_pos h1, ← hbytes (j - r) (by omega)]
          congr 1
          omega
        · rw [if_neg h1]
          exact hpt j (by omega)
      clear hB hkeep cm keep1 HFIT HN
      have HP2 : Hid (okP (laidN p r n (byteAt sv))) := hp'
      have HPT2 : Hid (∀ j, j < r + n → laidN p r n (byteAt sv) j = t (32 * q + j)) := hpt'
      clear hp' hpt'
      generalize laidN p r n (byteAt sv) = p1 at *
      have s1 : (0 : Int) ≤ (n : Int) := by omega
      have s2 : (n : Int) ≤ (L : Int) := by omega
      have e3 : (M : Int) + (n : Int) = ((M + n : Nat) : Int) := by omega
      have hM1 : M + n ≤ 140737488351232 := by have := HALL.out; omega
      by_cases hz : (M + n) % 32 = 0
      · have z1 : (((M + n : Nat) : Int)) % 32 = 0 := by omega
        generalize HM1q : M + n = M1 at *
        have HM1 : Hid (M + n = M1) := HM1q
        clear HM1q
        go_wp2_with fail
        have hPr : Hid (∀ w : World, Calls Tryz.prog 118 #[.agg (va 8 (iv .u32 K0)), .agg (va 32 (iv .u8 p1))] w fun e w' => e = .returned (.agg (va 8 (iv .u32 (pressN K0 p1)))) ∧ Below w.heap.size w w') := fun w => press_any K0 p1 (by rw [← HK0'.out]; exact run_ok hc0 HT.out q) HP2.out w
        generalize w1.setCell ⟨g, 40, none⟩ (.int .i64 (M1 : Int)) = w2 at *
        clear cm1 f1 b1
        generalize HK1 : pressN K0 p1 = K1 at *
        have HK1' : Hid (pressN K0 p1 = K1) := HK1
        clear HK1
        refine wp_region_partsI [] [([0, 1, 5], 2, true), ([], 3, true), ([], 4, true), ([], 6, false), ([], 7, false), ([], 8, false), ([], 9, false), ([], 10, false), ([], 11, false)] [] [12] w2.heap.size (by kernel_rfl) (by kernel_rfl) (fun _ hx => nomatch hx) (partsI_yield ?_)
        simp only [sgLHMapKit]
        go_wp2_with fail
        refine ⟨rfl, _, .pointer (some ⟨g, 0, none⟩), rfl, Or.inl ⟨by rfl, fun W hW => by go_simp⟩, partsI_yield ?_⟩
        simp only [Act.put, sgPHMapKit]
        simp only [sgLHMapKit]
        go_wp2_with fail
        refine ⟨rfl, _, .pointer (some ⟨g, 0, none⟩), rfl, Or.inl ⟨by rfl, fun W hW => by go_simp⟩, partsI_yield ?_⟩
        simp only [Act.put, sgPHMapKit]
        simp only [sgLHMapKit]
        go_wp2_with fail
        refine ⟨rfl, _, .agg (va 8 (iv .u32 K0)), rfl, yields_load_fa (by rfl) 237 _ (by rfl) g 0 8 (iv .u32 K0) (by rfl) _ (fun W hW => hash_range_chain (b2.below hW b2.lt)) Tryz.underlying237 rfl sizeChain, partsI_force ?_⟩
        simp only [Act.put, sgPHMapKit]
        simp only [sgLHMapKit]
        have hS : Below w2.heap.size w2 w2.drew := (Below.refl _ _).drew
        go_wp2_with fail
        refine ⟨rfl, hS, partsI_force ?_⟩
        simp only [sgLHMapKit]
        go_wp2_with fail
        refine ⟨rfl, hS, partsI_force ?_⟩
        simp only [sgLHMapKit]
        refine wpList_load_fa (by rfl) 239 _ (by rfl) g 8 32 (iv .u8 p1) (by rfl) _ (hash_range_piece b2.drew) Tryz.underlying239 rfl sizePiece ?_
        simp only [Act.put, sgPHMapKit]
        go_wp2_with fail
        refine ⟨rfl, hS, partsI_force ?_⟩
        simp only [sgLHMapKit]
        go_wp2_with fail
        refine (hPr.out _).mono ?_
        rintro e w3 ⟨rfl, hb3⟩
        have hS3 : Below w2.heap.size w2 w3 := hS.trans (hb3.mono (Nat.le_refl _))
        have b3 := b2.below hS3 b2.lt
        have keep3 : Keeps g w w3 := keep2.trans (Keeps.of hS3 (Nat.le_of_lt b2.lt))
        clear hS hb3 hPr
        go_wp2_with fail
        refine ⟨rfl, hS3, partsI_force ?_⟩
        simp only [sgLHMapKit]
        go_wp2_with fail
        refine ⟨rfl, hS3, partsI_force ?_⟩
        simp only [sgLHMapKit]
        go_wp2_with fail
        refine ⟨rfl, hS3, partsI_last ?_⟩
        simp only [sgLHMapKit]
        refine wpList_store_mid (by rfl) 237 _ _ (by rfl) g 0 (va 8 (iv .u32 K1)) (by rfl) (by rfl) (b3.there 0 _ (by rw [va_size, va_size]; decide)) (sizeChain.trans (by rw [va_size])) (iv_one _ _ _) ?_
        simp only [Act.put, sgPHMapKit]
        refine ⟨rfl, ?_⟩
        have b4 : Blk (w3.setCells g 0 (va 8 (iv .u32 K1)).toList) g 241 (va 41 (hashV K1 p1 M1)) := by
          have := Blk.cells_put (va 8 (iv .u32 K1)).toList 0 w3 _ b3
          have e : va 41 (over (hashV K0 p1 M1) 0 (va 8 (iv .u32 K1)).toList) = va 41 (hashV K1 p1 M1) := by
            rw [va_toList]
            exact hash_chain K0 K1 p1 M1
          rw [e] at this
          exact this
        have keep4 : Keeps g w (w3.setCells g 0 (va 8 (iv .u32 K1)).toList) := Keeps.setCells _ _ _ keep3
        generalize w3.setCells g 0 (va 8 (iv .u32 K1)).toList = w4 at *
        clear b3 keep3 hS3 b2 keep2
        go_wp2_with fail
        obtain ⟨hM, hr, hq, hL, hsv, hbytes, hp, hpt⟩ := HALL.out
        have hm1 := HM1.out
        refine ⟨⟨a + n, sv.extract n L, by omega, rfl, ?_, ?_, ?_, ?_⟩, ?_⟩
        · rw [drop_size sv n L hL' hn2.1]
          omega
        · intro j hj
          rw [drop_at sv n L j hL', ← hbytes (n + j) (by omega)]
          congr 1
          omega
        · rw [show m + (a + n) = M1 from by omega]
          exact holds_full HK0'.out HK1'.out HP2.out (fun j hj => HPT2.out j (by omega)) (by omega) b4
        · exact keep4
        · show (sv.extract n L).size < sv.size
          rw [drop_size sv n L hL' hn2.1]
          omega
      · have z1 : ¬ ((((M + n : Nat) : Int)) % 32 = 0) := by omega
        generalize HM1q : M + n = M1 at *
        have HM1 : Hid (M + n = M1) := HM1q
        clear HM1q
        go_wp2_with fail
        obtain ⟨hM, hr, hq, hL, hsv, hbytes, hp, hpt⟩ := HALL.out
        have hm1 := HM1.out
        refine ⟨⟨a + n, sv.extract n L, by omega, rfl, ?_, ?_, ?_, ?_⟩, ?_⟩
        · rw [drop_size sv n L hL' hn2.1]
          omega
        · intro j hj
          rw [drop_at sv n L j hL', ← hbytes (n + j) (by omega)]
          congr 1
          omega
        · rw [show m + (a + n) = M1 from by omega]
          exact holds_part HK0'.out HP2.out HPT2.out (by omega) (by omega) b2
        · exact keep2
        · show (sv.extract n L).size < sv.size
          rw [drop_size sv n L hL' hn2.1]
          omega
    · obtain rfl : a = k := by omega
      have z0 : sv.size = 0 := by omega
      go_wp2_with fail
      refine bodyPost_end (by simp [results, Tryz.results115]; rfl) rfl ?_
      exact ⟨rfl, hH, hkeep⟩
end Go.Proofs.YtiofonffmplfmaaGreat

namespace Go.Proofs.YtiofonffmplfmaaGreat
open Go Go.RowKit
set_option linter.unusedVariables false
set_option linter.unusedSimpArgs false

section
variable {α β : Type} [DecidableEq α] {P : Program}
/-- how keys are told: encoded, compared, and that each may be a key -/
structure KeyOf (P : Program) (kt : TypeId) (K : α → Value) : Prop where
  desc : ∃ d, P.underlying kt = some d ∧ (∀ k, d ≠ .int k) ∧ d ≠ .string ∧ d ≠ .bool
  eq : ∀ a b w, (Op.equal kt (K a) (K b)).run P w = .ok (decide (a = b)) w
  chk : ∀ e a w, (Instr.checkKey e 10000 kt (K a)).run P w = .ok () w
/-- the map in block r holds these keys and elements, in this order -/
def MapIs (K : α → Value) (V : β → Value) (w : World) (r : Nat) (l : List (α × β)) : Prop :=
  ∃ es clock, w.heap[r]? = some (.map es clock) ∧ es.toList.map (fun e => (e.key, e.val)) = l.map fun p => (K p.1, V p.2)
def findIn (a : α) : List (α × β) → Option β
  | [] => none
  | p :: l => if a = p.1 then some p.2 else findIn a l
theorem findNow_none {d : TypeDesc} (h1 : ∀ k, d ≠ .int k) (h2 : d ≠ .string) (h3 : d ≠ .bool) (k : Value) (e : MapEntry) (es : List MapEntry) (i : Nat) : Instr.findNow d k (e :: es) i = none := by
  have : Instr.sameNow d k e.key = none := by
    unfold Instr.sameNow
    split
    · exact absurd rfl (h1 _)
    · exact absurd rfl h2
    · exact absurd rfl h3
    · rfl
  simp [Instr.findNow, this]
theorem run_findAsking {kt : TypeId} {K : α → Value} {V : β → Value} (hk : KeyOf P kt K) (a : α) (w : World) : ∀ (l : List (α × β)) (es : List MapEntry) (i : Nat), es.map (fun e => (e.key, e.val)) = l.map (fun p => (K p.1, V p.2)) →
    ∃ r, (Instr.findAsking kt (K a) es i).run P w = .ok r w ∧ (∀ b, findIn a l = some b → ∃ j, r = some (j, V b)) ∧ (findIn a l = none → r = none)
  | [], es, i, h => by
    have : es = [] := by cases es with
      | nil => rfl
      | cons e es => simp at h
    subst this
    exact ⟨none, by simp [Instr.findAsking], (fun b hb => by cases hb), fun _ => rfl⟩
  | p :: l, [], i, h => by simp at h
  | p :: l, e :: es, i, h => by
    simp only [List.map_cons, List.cons.injEq, Prod.mk.injEq] at h
    obtain ⟨⟨h1, h2⟩, h3⟩ := h
    have he := hk.eq a p.1 w
    rw [← h1] at he
    by_cases hq : a = p.1
    · refine ⟨some (i, e.val), ?_, fun b hb => ?_, fun hn => ?_⟩
      · simp only [Instr.findAsking, Sem.run_bind, he, Result.andThen_ok, decide_eq_true hq, if_true, Sem.run_pure]
      · unfold findIn at hb
        rw [if_pos hq] at hb
        cases hb
        exact ⟨i, by rw [h2]⟩
      · unfold findIn at hn
        rw [if_pos hq] at hn
        cases hn
    · obtain ⟨r, h4, h5, h6⟩ := run_findAsking hk a w l es (i + 1) h3
      refine ⟨r, ?_, fun b hb => ?_, fun hn => ?_⟩
      · simp only [Instr.findAsking, Sem.run_bind, he, Result.andThen_ok, decide_eq_false hq, Bool.false_eq_true, if_false, h4]
      · unfold findIn at hb
        rw [if_neg hq] at hb
        exact h5 b hb
      · unfold findIn at hn
        rw [if_neg hq] at hn
        exact h6 hn
theorem run_findKey {kt : TypeId} {K : α → Value} {V : β → Value} (hk : KeyOf P kt K) (a : α) (w : World) (l : List (α × β)) (es : List MapEntry) (h : es.map (fun e => (e.key, e.val)) = l.map (fun p => (K p.1, V p.2))) :
    ∃ r, (Instr.findKey kt (K a) es).run P w = .ok r w ∧ (∀ b, findIn a l = some b → ∃ j, r = some (j, V b)) ∧ (findIn a l = none → r = none) := by
  obtain ⟨d, hd, n1, n2, n3⟩ := hk.desc
  cases es with
  | nil =>
    have : l = [] := by cases l with
      | nil => rfl
      | cons p l => simp at h
    subst this
    exact ⟨none, by simp [Instr.findKey, run_underlying hd, Instr.findNow], (fun b hb => by cases hb), fun _ => rfl⟩
  | cons e es =>
    obtain ⟨r, h4, h5, h6⟩ := run_findAsking hk a w l (e :: es) 0 h
    exact ⟨r, by simp [Instr.findKey, run_underlying hd, findNow_none n1 n2 n3, h4], h5, h6⟩
/-- a look-up -/
theorem run_lookup_is {mt kt et : TypeId} {K : α → Value} {V : β → Value} {z : Value} (hm : P.underlying mt = some (.map kt et)) (hk : KeyOf P kt K) (hz : ∀ w, (zeroValue et).run P w = .ok z w) {w : World} {r : Nat} {l : List (α × β)} (h : MapIs K V w r l) (a : α) (ok : Bool) :
    (Instr.lookup mt (.map (some r)) (K a) ok).run P w = .ok (if ok then .tuple #[((findIn a l).map V).getD z, .bool (findIn a l).isSome] else ((findIn a l).map V).getD z) w := by
  obtain ⟨es, clock, hg, he⟩ := h
  obtain ⟨x, h4, h5, h6⟩ := run_findKey hk a w l es.toList he
  have hc := hk.chk es.isEmpty a w
  have hgo : (getObj r).run P w = .ok (.map es clock) w := by simp [getObj, Sem.run, hg]
  cases hf : findIn a l with
  | none =>
    obtain rfl := h6 hf
    cases ok <;> simp [Instr.lookup, run_underlying hm, hgo, hc, h4, hz]
  | some b =>
    obtain ⟨j, rfl⟩ := h5 b hf
    cases ok <;> simp [Instr.lookup, run_underlying hm, hgo, hc, h4]
/-- a new key stored -/
theorem run_update_is {mt kt et : TypeId} {K : α → Value} {V : β → Value} (hm : P.underlying mt = some (.map kt et)) (hk : KeyOf P kt K) {w : World} {r : Nat} {l : List (α × β)} (h : MapIs K V w r l) (a : α) (b : β) (hn : findIn a l = none) :
    ∃ w', (Instr.mapUpdate mt (.map (some r)) (K a) (V b)).run P w = .ok () w' ∧ MapIs K V w' r (l ++ [(a, b)]) ∧ Keeps r w w' := by
  obtain ⟨es, clock, hg, he⟩ := h
  obtain ⟨x, h4, h5, h6⟩ := run_findKey hk a w l es.toList he
  obtain rfl := h6 hn
  have hc := hk.chk false a w
  have hgo : (getObj r).run P w = .ok (.map es clock) w := by simp [getObj, Sem.run, hg]
  have hso : ∀ o, (setObj r o).run P w = .ok () { w with heap := w.heap.setIfInBounds r o } := fun o => by simp [setObj, Sem.run, hg]
  have hr : r < w.heap.size := (Array.getElem?_eq_some_iff.1 hg).1
  refine ⟨{ w with heap := w.heap.setIfInBounds r (.map (es.push { key := K a, val := V b, born := clock }) (clock + 1)) }, ?_, ⟨es.push { key := K a, val := V b, born := clock }, clock + 1, ?_, ?_⟩, ⟨⟨rfl, rfl, rfl, by simp, fun k hk => ?_⟩, fun k hk _ => ?_⟩⟩
  · simp [Instr.mapUpdate, run_underlying hm, hgo, hc, h4, hso]
  · simp [hr]
  · simp [he]
  · simp [Array.getElem?_setIfInBounds, show r ≠ k by omega]
  · simp [Array.getElem?_setIfInBounds, Ne.symm hk]
theorem findIn_append (a : α) (l m : List (α × β)) : findIn a (l ++ m) = (findIn a l).or (findIn a m) := by
  induction l with
  | nil => rfl
  | cons p l ih =>
    simp only [List.cons_append, findIn]
    by_cases h : a = p.1
    · simp [h]
    · simp [h, ih]
end
theorem MapIs.keep {α β : Type} {K : α → Value} {V : β → Value} {w w' : World} {r g : Nat} {l : List (α × β)} (h : MapIs K V w r l) (hk : Keeps g w w') (hne : r ≠ g) : MapIs K V w' r l := by
  obtain ⟨es, clock, hg, he⟩ := h
  exact ⟨es, clock, (hk.2 r hne (Array.getElem?_eq_some_iff.1 hg).1).trans hg, he⟩
theorem MapIs.below {α β : Type} {K : α → Value} {V : β → Value} {w w' : World} {r B : Nat} {l : List (α × β)} (h : MapIs K V w r l) (hb : Below B w w') (hB : r < B) : MapIs K V w' r l := by
  obtain ⟨es, clock, hg, he⟩ := h
  exact ⟨es, clock, (hb.block r hB).trans hg, he⟩
end Go.Proofs.YtiofonffmplfmaaGreat
