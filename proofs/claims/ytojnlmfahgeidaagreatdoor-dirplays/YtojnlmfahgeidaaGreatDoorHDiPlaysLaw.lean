/- DirPlays: entries added, taken away, given other inodes, in any order; what the directories say. -/
import Derived.Test.YtojnlmfahgeidaaGreatDoorRows
import Derived.WalkKit
import Derived.ProofKit
import Derived.OpenShut
import Derived.Lib.SmallJoins
import Derived.SizedLaws
import Derived.Deep.Slices
import Derived.Test.YtojnlmfahgeidaaGreatDoorHDigText
import Derived.Test.YtojnlmfahgeidaaGreatDoorHNdAwake
import Derived.Test.YtojnlmfahgeidaaGreatDoorHDiBegun
import Derived.Handy
import Derived.Test.YtojnlmfahgeidaaGreatDoorHMath

namespace Go.Proofs.YtojnlmfahgeidaaGreatDoor
open Go.ChangeShapes Go.WideShapes Go.ChangeAt Go.RowKit Go.Joins
set_option linter.unusedVariables false
set_option linter.unusedSimpArgs false
/-- a deed -/
structure A7 where
  kd : Int
  dr : Int
  i : Int
  s : ByteArray
  t : Nat
def A7.cs (x : A7) : List Value := [.int .i64 x.kd, .int .i64 x.dr, .int .i64 x.i, .string x.s, .int .u64 ((x.t : Nat) : Int)]
/-- what any deed is -/
def A7.ok (x : A7) : Prop := (-9223372036854775808 ≤ x.kd ∧ x.kd ≤ 9223372036854775807) ∧ (-9223372036854775808 ≤ x.dr ∧ x.dr ≤ 9223372036854775807) ∧ (-9223372036854775808 ≤ x.i ∧ x.i ≤ 9223372036854775807) ∧ x.s.size ≤ maxLen ∧ x.t < 18446744073709551616
def IsA17 (W : World) (a : Option Addr) (n : Nat) (A : Nat → A7) : Prop := ∀ i, i < n → ∃ b o, a = some ⟨b, o, none⟩ ∧ b < W.heap.size ∧ W.rangeAt b (o + i * 5) (A i).cs
theorem IsA17.below {W V : World} {a : Option Addr} {n : Nat} {A : Nat → A7} (h : IsA17 W a n A) (hb : Below W.heap.size W V) : IsA17 V a n A := fun i hi => by
  obtain ⟨b, o, h1, h2, h3⟩ := h i hi
  refine ⟨b, o, h1, Nat.lt_of_lt_of_le h2 hb.size, fun j v hv => ?_⟩
  rw [← h3 j v hv]
  simp [World.cell?, hb.block b h2]
theorem a7cell_lt {W : World} {b o : Nat} {v : Value} (h : W.cell? ⟨b, o, none⟩ = some v) : b < W.heap.size := World.block_lt_of_cell? _ _ h
set_option maxRecDepth 100000 in
theorem open_acts17 {H : Type} {enc : TypeId × Value → H} {W : World} {a0 : Option Addr} {len cap fuel : Nat} {x : DataW H × List MemPlace}
    (hf : DataW.trod enc Tryz.prog W 0 (fun _ => true) true fuel 22 [.slice a0 len cap] = some x) (hsz : ∀ n ∈ x.1.weights Tryz.prog 22, n ≤ reachBytes) :
    ∃ (A : Nat → A7), len * 48 ≤ 140737488351232 ∧ (a0 = none → len = 0 ∧ cap = 0) ∧ (∀ i, i < len → (A i).ok) ∧ IsA17 W a0 len A := by
  rcases Deep.open_slice Tryz.underlying22 hf with ⟨hcs, hx⟩ | ⟨a, len', cap', m, n, D, Pl, hcs, _, hl, hm, hmm, hx, hel⟩
  · simp at hcs
    obtain ⟨rfl, rfl, rfl⟩ := hcs
    exact ⟨fun _ => ⟨0, 0, 0, ⟨#[]⟩, 0⟩, by omega, fun _ => ⟨rfl, rfl⟩, fun i hi => absurd hi (by omega), fun i hi => absurd hi (by omega)⟩
  · simp at hcs
    obtain ⟨rfl, rfl, rfl⟩ := hcs
    subst hx
    simp only [if_true] at hmm
    subst hmm
    have hu := Tryz.underlying22
    have hby : Tryz.prog.bytesOf 38 = 48 := by kernel_rfl
    have hw0 := hsz ((((List.range len).map D).length + ((List.range (m - len)).map fun j => D (len + j)).length) * Tryz.prog.bytesOf 38) (by simp [DataW.weights, hu])
    rw [hby] at hw0
    simp only [List.length_map, List.length_range] at hw0
    have hlen4 : len * 48 ≤ 140737488351232 := by
      unfold reachBytes at hw0
      omega
    have hce : Tryz.prog.cellsOf 38 = 5 := by kernel_rfl
    have hci : Tryz.prog.cellsOf 3 = 1 := by kernel_rfl
    have hcu : Tryz.prog.cellsOf 9 = 1 := by kernel_rfl
    have hc8 : Tryz.prog.cellsOf 26 = 1 := by kernel_rfl
    have hcl2 : Tryz.prog.cellsOf 36 = 2 := by kernel_rfl
    have hsp : 0 < len → a.spot = none := fun h0 => by
      obtain ⟨cs', h1, _⟩ := hel 0 (by omega)
      rw [hce] at h1
      obtain ⟨_, hcl, hcell⟩ := World.cells?_some h1
      match cs', hcl with
      | [v0, v1, v2, v3, v4], _ => simpa [Addr.add] using World.cell?_spot (hcell 0 (by omega))
    have each : ∀ i, ∃ q : A7, i < len → q.ok ∧ ∃ b o, a = ⟨b, o, none⟩ ∧ b < W.heap.size ∧ W.rangeAt b (o + i * 5) q.cs := by
      intro i
      by_cases hi : i < len
      · obtain ⟨cs', h1, h2⟩ := hel i (by omega)
        rw [hce] at h1
        obtain ⟨_, hcl, hcell⟩ := World.cells?_some h1
        obtain ⟨xs, k, hk, hxy, _, hxl, hfs⟩ := DataW.trod_struct Tryz.underlying38 h2
        match xs, hxl, cs', hcl with
        | [y0, y1, y2, y3], _, [v0, v1, v2, v3, v4], _ =>
          have g0 := hfs 0 _ rfl
          have g1 := hfs 1 _ rfl
          have gl := hfs 2 _ rfl
          have g4 := hfs 3 _ rfl
          simp [hci, hcu, hc8, hcl2] at g0 g1 gl g4
          obtain ⟨zs, k', hk', hzy, _, hzl, hgs⟩ := DataW.trod_struct Tryz.underlying36 gl
          match zs, hzl with
          | [z0, z1], _ =>
          have g2 := hgs 0 _ rfl
          have g3 := hgs 1 _ rfl
          simp [hci, hcu] at g2 g3
          obtain ⟨p0, e0, _, w0⟩ := DataW.trod_int Tryz.underlying3 g0
          obtain ⟨p1, e1, _, w1⟩ := DataW.trod_int Tryz.underlying3 g1
          obtain ⟨p2, e2, _, w2⟩ := DataW.trod_int Tryz.underlying3 g2
          obtain ⟨r, e3, _, w3⟩ := DataW.trod_string Tryz.underlying9 g3
          obtain ⟨y, e4, _, w4⟩ := DataW.trod_int Tryz.underlying26 g4
          simp at e0 e1 e2 e3 e4
          subst e0 e1 e2 e3 e4
          have hy := bounds_u64 w4
          obtain ⟨t, rfl⟩ : ∃ t : Nat, y = (t : Int) := ⟨y.toNat, by omega⟩
          refine ⟨⟨p0, p1, p2, r, t⟩, fun _ => ⟨⟨bounds_i64 w0, bounds_i64 w1, bounds_i64 w2, w3, by show t < 18446744073709551616; omega⟩, ?_⟩⟩
          have c0 := hcell 0 (by decide)
          have c1 := hcell 1 (by decide)
          have c2 := hcell 2 (by decide)
          have c3 := hcell 3 (by decide)
          have c4 := hcell 4 (by decide)
          obtain ⟨b, off, spot⟩ := a
          have hspot : spot = none := hsp (by omega)
          subst hspot
          simp only [Addr.add_mid, List.getElem?_cons_zero, List.getElem?_cons_succ] at c0 c1 c2 c3 c4
          refine ⟨b, off, rfl, a7cell_lt c0, fun j v hv => ?_⟩
          match j with
          | 0 => rw [← hv]; exact c0
          | 1 => rw [← hv]; exact c1
          | 2 => rw [← hv]; exact c2
          | 3 => rw [← hv]; exact c3
          | 4 => rw [← hv]; exact c4
          | j + 5 => simp [A7.cs] at hv
      · exact ⟨⟨0, 0, 0, ⟨#[]⟩, 0⟩, fun h => absurd h hi⟩
    refine ⟨fun i => Classical.choose (each i), hlen4, fun h => by simp at h, fun i hi => (Classical.choose_spec (each i) hi).1, fun i hi => ?_⟩
    obtain ⟨b, o, rfl, h1, h2⟩ := (Classical.choose_spec (each i) hi).2
    exact ⟨b, o, rfl, h1, h2⟩
theorem open_acts17y {H : Type} {enc : TypeId × Value → H} {W : World} {a0 : Option Addr} {len cap fuel : Nat} {x : DataW H × List MemPlace}
    (hf : DataW.trod enc Tryz.prog W 0 (fun _ => true) true fuel 22 [.slice a0 len cap] = some x) (hsz : ∀ n ∈ x.1.weights Tryz.prog 22, n ≤ reachBytes) :
    ∃ (X : Nat → A7), len ≤ 9223372036854775807 ∧ ((∀ i, i < len → (X i).ok) ∧ IsA17 W a0 len X) := by
  obtain ⟨A, h1, _, h3, h4⟩ := open_acts17 hf hsz
  exact ⟨A, by omega, h3, h4⟩
end Go.Proofs.YtojnlmfahgeidaaGreatDoor

namespace Go.Proofs.YtojnlmfahgeidaaGreatDoor
open Go Go.RowKit Go.Nam
set_option linter.unusedSimpArgs false
set_option linter.unusedVariables false
theorem IsA17.cs {W : World} {b o n i : Nat} {X : Nat → A7} (h : IsA17 W (some ⟨b, o, none⟩) n X) (hi : i < n) : W.cell? ⟨b, o + i * 5, none⟩ = some (.int .i64 (X i).kd) ∧ W.cell? ⟨b, o + i * 5 + 1, none⟩ = some (.int .i64 (X i).dr) ∧ W.cell? ⟨b, o + i * 5 + 2, none⟩ = some (.int .i64 (X i).i) ∧ W.cell? ⟨b, o + i * 5 + 3, none⟩ = some (.string (X i).s) ∧ W.cell? ⟨b, o + i * 5 + 4, none⟩ = some (.int .u64 (((X i).t : Nat) : Int)) := by
  obtain ⟨b', o', h1, _, h3⟩ := h i hi
  injection h1 with h1
  injection h1 with e1 e2 _
  subst e1 e2
  exact ⟨h3 0 _ rfl, h3 1 _ rfl, h3 2 _ rfl, h3 3 _ rfl, h3 4 _ rfl⟩
/-- what stands in the loop: two directories, what is said of them in a block of its own -/
structure DL (w W : World) (gs x mf ml mc : Nat) (cp : Option Addr) (A : Nat → Option Addr) (K C T : Nat → Nat) (N : Nat → Nat → Int) (S : Nat → Nat → ByteArray) : Prop where
  pd : PD W (gs + 1) x mf ml mc cp A K C T N S
  sd : Blk W gs 31 (sdC A K C T)
  lt : x < gs ∧ mf < gs ∧ ml < gs ∧ mc < gs
  lo : w.heap.size ≤ x ∧ w.heap.size ≤ mf ∧ w.heap.size ≤ ml ∧ w.heap.size ≤ mc ∧ w.heap.size ≤ gs
  bl : Below w.heap.size w W
section
variable {w W W' : World} {gs x mf ml mc : Nat} {cp : Option Addr} {A A' : Nat → Option Addr} {K C T K' C' T' : Nat → Nat} {N N' : Nat → Nat → Int} {S S' : Nat → Nat → ByteArray}
theorem DL.below (h : DL w W gs x mf ml mc cp A K C T N S) (hb : Below W.heap.size W W') : DL w W' gs x mf ml mc cp A K C T N S :=
  ⟨h.pd.below hb, h.sd.below hb h.sd.lt, h.lt, h.lo, h.bl.trans (hb.mono h.bl.size)⟩
theorem DL.begin (hB : Beg7 w W x mf ml mc cp) : DL w (W.alloc (.cells #[.slice none 0 0, .slice none 0 0, .slice none 0 0, .int .u64 0, .int .u64 1, .int .u64 1] 31)) W.heap.size x mf ml mc cp (fun _ => none) (fun _ => 0) (fun _ => 0) (fun _ => 1) (fun _ _ => 0) (fun _ _ => ⟨#[]⟩) := by
  obtain ⟨hx, hI, hb⟩ := hB
  have hl := hI.lts
  have hs := hb.size
  have hn : Below W.heap.size W (W.alloc (.cells #[.slice none 0 0, .slice none 0 0, .slice none 0 0, .int .u64 0, .int .u64 1, .int .u64 1] 31)) := below_new1 _ _
  refine ⟨⟨⟨b7H, b7D, hI.below hn, ⟨rfl, fun m h1 h2 => ?_⟩, fun d hd => b7_dir d hd _ _⟩, ⟨by omega, by omega, by omega, by omega⟩, by simp, fun d hd => ⟨fun i hi => absurd hi (Nat.not_lt_zero _), fun _ => ⟨rfl, rfl⟩⟩, fun d b o k hd he => by cases he⟩, Blk.new _ _ _, ⟨hl.1, hl.2.1, hl.2.2.1, hl.2.2.2⟩, ⟨hx.1, hx.2.1, hx.2.2.1, hx.2.2.2, hs⟩, hb.trans (hn.mono hs)⟩
  unfold b7H hU
  rw [if_neg (by omega), if_neg (by omega), if_neg (by omega)]
  rfl
/-- one deed of the loop, and what it says laid into its block -/
theorem DL.did (h : DL w W gs x mf ml mc cp A K C T N S) (hp : PD W' (gs + 1) x mf ml mc cp A' K' C' T' N' S') (hT : Turns (fun z => z = ml ∨ z = mf) W W') : DL w (W'.setRow gs (sdC A' K' C' T')) gs x mf ml mc cp A' K' C' T' N' S' ∧ Blk W' gs 31 (sdC A K C T) ∧ Below w.heap.size w W' := by
  have hlt := h.lt
  have hlo := h.lo
  have hs : Blk W' gs 31 (sdC A K C T) := (hT.block _ h.sd.lt (by omega)).trans h.sd
  obtain ⟨H, D, h1, h2, h3⟩ := hp.im
  have hz : ∀ (c : Array Value) (k : Nat), k ≠ gs → (W'.setRow gs c).heap[k]? = W'.heap[k]? := fun c k => setRow_other W' gs k c
  have hb : Below w.heap.size w W' := h.bl.trans (hT.below h.bl.size (fun b hb => by rcases hb with rfl | rfl; exact hlo.2.2.1; exact hlo.2.1))
  refine ⟨⟨⟨⟨H, D, h1.keep (hz _ _ (by omega)) (hz _ _ (by omega)) (hz _ _ (by omega)) (hz _ _ (by omega)), h2, h3⟩, hp.lt, ?_, fun d hd => ⟨(hp.ls d hd).1.at (by simp) fun b o hb hl => hz _ _ (fun e => ?_), (hp.ls d hd).2⟩, hp.hi⟩, hs.set _, h.lt, h.lo, below_setRow hb hlo.2.2.2.2 _⟩, hs, hb⟩
  · have := hp.sz
    simpa using this
  · have := hp.hi d b o none hd hb
    omega
end
end Go.Proofs.YtojnlmfahgeidaaGreatDoor

namespace Go.Proofs.YtojnlmfahgeidaaGreatDoor
open Go Go.RowKit Go.Nam
set_option linter.unusedSimpArgs false
set_option linter.unusedVariables false
set_option maxRecDepth 100000 in
set_option maxHeartbeats 16000000 in
theorem dirPlaysLaw (a : Option Addr) (n c : Nat) (hn : n ≤ 9223372036854775807) (X : Nat → A7) (hX : ∀ i, i < n → (X i).ok) (w : World) (hI : IsA17 w a n X) :
    Calls Tryz.prog 3 #[.slice a n c] w fun e w' => e = .returned (.bool true) ∧ Below w.heap.size w w' := by
  have HIA : Hid (IsA17 w a n X ∧ ∀ i, i < n → (X i).ok) := ⟨hI, hX⟩
  have HBG := begun17_any w
  clear hI hX
  go_enter Tryz.func3, Tryz.ntmps3
  go_wp2_with fail
  have HAW : Hid (∀ V : World, Calls Tryz.prog 11 #[] V fun e w' => e = .returned (.bool true) ∧ Below V.heap.size V w') := awake17_any
  refine HBG.mono ?_
  rintro e w1 ⟨x, mf, ml, mc, cp, rfl, hB⟩
  have HD1 : Hid (DL w (w1.alloc (.cells #[.slice none 0 0, .slice none 0 0, .slice none 0 0, .int .u64 0, .int .u64 1, .int .u64 1] 31)) w1.heap.size x mf ml mc cp (fun _ => none) (fun _ => 0) (fun _ => 0) (fun _ => 1) (fun _ _ => 0) (fun _ _ => ⟨#[]⟩)) := DL.begin hB
  clear HBG hB
  go_wp2_with fail
  generalize (w1.alloc (.cells #[.slice none 0 0, .slice none 0 0, .slice none 0 0, .int .u64 0, .int .u64 1, .int .u64 1] 31)) = w2 at *
  generalize w1.heap.size = gs at *
  refine (HAW.out _).mono ?_
  rintro e w3 ⟨rfl, hb3⟩
  have HD3 : Hid (DL w w3 gs x mf ml mc cp (fun _ => none) (fun _ => 0) (fun _ => 0) (fun _ => 1) (fun _ _ => 0) (fun _ _ => ⟨#[]⟩)) := HD1.out.below hb3
  clear HD1 HAW hb3
  go_wp2_with fail
  go_loopw [4, 6] (fun v4 v6 wr => Hid (∃ (i : Nat) (A : Nat → Option Addr) (K C T : Nat → Nat) (N : Nat → Nat → Int) (S : Nat → Nat → ByteArray), i ≤ n ∧ v4 = .bool true ∧ v6 = .int .i64 (i : Int) ∧ DL w wr gs x mf ml mc cp A K C T N S)) (fun _ v6 _ => n - (intOf v6).toNat)
  case atStart => exact ⟨0, _, _, _, _, _, _, Nat.zero_le _, rfl, rfl, HD3.out⟩
  case round =>
    obtain ⟨i, A, K, C, T, N, S, hi, rfl, rfl, hg⟩ := Hid.out hrel
    have HG : Hid (DL w wr gs x mf ml mc cp A K C T N S) := hg
    clear hrel hg HD3
    by_cases hin : i < n
    · have i1 : (i : Int) < (n : Int) := by omega
      have i0 : (0 : Int) ≤ (i : Int) := by omega
      obtain ⟨b1, o1, ea, _⟩ := HIA.out.1 i hin
      subst ea
      have hsd : Blk wr.drew gs 31 (sdC A K C T) := HG.out.sd.drew
      have HA8 : Hid (IsA17 wr.drew (some ⟨b1, o1, none⟩) n X) := (HIA.out.1.below HG.out.bl).below (Below.refl _ _).drew
      have hok := HIA.out.2 i hin
      obtain ⟨⟨KI, DI, II, SI, TI⟩, eX⟩ : ∃ y, X i = y := ⟨_, rfl⟩
      rw [eX] at hok
      have HG' : Hid (DL w wr.drew gs x mf ml mc cp A K C T N S) := HG.out.below (Below.refl _ _).drew
      clear HG
      have HG : Hid (DL w wr.drew gs x mf ml mc cp A K C T N S) := HG'.out
      clear HG'
      have H8 := HG.out.pd.one KI DI II TI SI hok.2.1
      clear hok
      go_wp2_with fail
      refine wp_region_plan (fun U => Hid (IsA17 U (some ⟨b1, o1, none⟩) n X)) (.yield [0, 2, 3, 4] 5 (.force [] 1 (.force [] 6 (.yield [7, 8] 9 (.force [] 10 (.fin [11])))))) (by kernel_rfl) (by kernel_rfl) HA8 (plan_yield ?_)
      simp only [List.cons_append, List.nil_append, List.append_nil, List.filterMap_cons, List.filterMap_nil, List.getElem?_toArray, List.getElem?_cons_zero, List.getElem?_cons_succ]
      go_wp2_with fail
      refine ⟨rfl, _, .agg (aeC KI DI II SI ((TI : Nat) : Int)), rfl, Or.inl ⟨by rfl, fun W hW => by obtain ⟨q1, q2, q3, q4, q5⟩ := (Hid.out hW).cs hin; rw [eX] at q1 q2 q3 q4 q5; go_simp; rfl⟩, plan_force ?_⟩
      simp only [Act.put, List.setIfInBounds_toArray, List.set_cons_zero, List.set_cons_succ]
      simp only [List.cons_append, List.nil_append, List.append_nil, List.filterMap_cons, List.filterMap_nil, List.getElem?_toArray, List.getElem?_cons_zero, List.getElem?_cons_succ]
      clear eX
      refine wpList_load_row (by rfl) 31 _ (by rfl) (gs) (by rfl) 31 (sdC A K C T) (0, 0) _ (by exact hsd) Tryz.underlying31 (by rfl) (size_sd.trans (by rfl)) ?_
      simp only [Act.put, List.setIfInBounds_toArray, List.set_cons_zero, List.set_cons_succ]
      go_wp2_with fail
      refine ⟨rfl, HA8, plan_force ?_⟩
      simp only [List.cons_append, List.nil_append, List.append_nil, List.filterMap_cons, List.filterMap_nil, List.getElem?_toArray, List.getElem?_cons_zero, List.getElem?_cons_succ]
      go_wp2_with fail
      refine H8.mono ?_
      rintro e w9 ⟨A9, K9, C9, T9, N9, S9, rfl, hp9, hT9⟩
      obtain ⟨hD9, hs9, hb9⟩ := HG.out.did hp9 hT9
      have HD9 : Hid (DL w (w9.setRow gs (sdC A9 K9 C9 T9)) gs x mf ml mc cp A9 K9 C9 T9 N9 S9) := hD9
      have HA9 : Hid (IsA17 w9 (some ⟨b1, o1, none⟩) n X) := HIA.out.1.below hb9
      have HA10 : Hid (IsA17 (w9.setRow gs (sdC A9 K9 C9 T9)) (some ⟨b1, o1, none⟩) n X) := HIA.out.1.below hD9.bl
      clear hp9 hT9 hD9 hb9 H8 HA8
      go_wp2_with fail
      refine ⟨rfl, HA9, plan_yield ?_⟩
      simp only [List.cons_append, List.nil_append, List.append_nil, List.filterMap_cons, List.filterMap_nil, List.getElem?_toArray, List.getElem?_cons_zero, List.getElem?_cons_succ]
      go_wp2_with fail
      refine ⟨rfl, _, .bool true, rfl, Or.inl ⟨by rfl, fun W hW => by go_simp⟩, plan_force ?_⟩
      simp only [Act.put, List.setIfInBounds_toArray, List.set_cons_zero, List.set_cons_succ]
      simp only [List.cons_append, List.nil_append, List.append_nil, List.filterMap_cons, List.filterMap_nil, List.getElem?_toArray, List.getElem?_cons_zero, List.getElem?_cons_succ]
      refine wpList_store_row (by rfl) 31 _ _ (by rfl) (gs) (sdC A9 K9 C9 T9) (by rfl) (by rfl) 31 (sdC A K C T) (by exact hs9) (size_sd.trans (by rfl)) (by rfl) (sd_all _ _ _ _) ?_
      simp only [Act.put, List.setIfInBounds_toArray, List.set_cons_zero, List.set_cons_succ]
      go_wp2_with fail
      refine ⟨rfl, HA10, plan_fin ?_⟩
      simp only [List.cons_append, List.nil_append, List.append_nil, List.filterMap_cons, List.filterMap_nil, List.getElem?_toArray, List.getElem?_cons_zero, List.getElem?_cons_succ]
      go_wp2_with fail
      refine ⟨rfl, ?_⟩
      go_wp2_with fail
      go_wp2_with fail
      go_roundw
      case rel => exact ⟨i + 1, A9, K9, C9, T9, N9, S9, by omega, rfl, by first | rfl | go_num | simp, HD9.out⟩
      case measure => simp [intOf]; omega
    · have i1 : ¬ (i : Int) < (n : Int) := by omega
      have hsd := HG.out.sd
      have H8 := HG.out.pd.says 1 (.inl rfl)
      have HB8 : Hid (∀ V, Below wr.heap.size wr V → Calls Tryz.prog 13 #[.pointer (some ⟨x, 0, none⟩), .agg (sdC A K C T), .int .i64 2] V fun e w' => e = .returned (.bool true) ∧ Below V.heap.size V w') := fun V hV => (HG.out.pd.below hV).says 2 (.inr rfl)
      have HBW : Hid (Below w.heap.size w wr) := HG.out.bl
      clear HG
      go_wp2_with (first | (refine wpList_load_rowg (by rfl) 31 _ (by rfl) (gs) (by rfl) 31 (sdC A K C T) (0, 0) _ (by exact hsd) Tryz.underlying31 (by rfl) (size_sd.trans (by rfl)) ?_; simp only [Act.put, List.setIfInBounds_toArray, List.set_cons_zero, List.set_cons_succ]) | fail)
      refine H8.mono ?_
      rintro e w8 ⟨rfl, hb8⟩
      have hs8 := hsd.below hb8 hsd.lt
      have H9 := HB8.out w8 hb8
      have HB9 : Hid (Below w.heap.size w w8) := HBW.out.trans (hb8.mono HBW.out.size)
      clear H8 hb8 hsd HBW HB8
      go_wp2_with (first | (refine wpList_load_rowg (by rfl) 31 _ (by rfl) (gs) (by rfl) 31 (sdC A K C T) (0, 0) _ (by exact hs8) Tryz.underlying31 (by rfl) (size_sd.trans (by rfl)) ?_; simp only [Act.put, List.setIfInBounds_toArray, List.set_cons_zero, List.set_cons_succ]) | fail)
      refine H9.mono ?_
      rintro e w9 ⟨rfl, hb9⟩
      have HB10 : Hid (Below w.heap.size w w9) := HB9.out.trans (hb9.mono HB9.out.size)
      clear H9 hb9 hs8 HB9
      go_wp2_with fail
      go_ret
      exact ⟨rfl, HB10.out⟩
end Go.Proofs.YtojnlmfahgeidaaGreatDoor
