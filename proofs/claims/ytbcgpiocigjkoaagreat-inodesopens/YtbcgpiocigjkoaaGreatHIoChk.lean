/- Which inodes may be: the whole Check; heights, leaves, places. -/
import Derived.Test.YtbcgpiocigjkoaaGreatHCaLru
import Derived.Handy
import Derived.Test.YtbcgpiocigjkoaaGreatHCollKit
import Derived.Deep.DeepCutAuto
import Derived.Deep.Cut
import Derived.Test.YtbcgpiocigjkoaaGreatChecked
import Derived.Test.YtbcgpiocigjkoaaGreatHBlkKey
import Derived.WalkKit
import Derived.Laws.MakeOwn
import Derived.Maps.AppendAt
import Derived.Test.YtbcgpiocigjkoaaGreatHDkWrite
import Derived.Lib.SlBytesConst
import Derived.ArgAppend
import Derived.BigQuiet
import Derived.Deep.QuietTactic

namespace Go.Proofs.YtbcgpiocigjkoaaGreat
open Go Go.RowKit
set_option linter.unusedSimpArgs false
set_option linter.unusedVariables false

/-- the chain of entries in the memory -/
structure ChainAt (w : World) (c m : Nat) (dp lp : Option Addr) (room h r bd cn : Int) (L : List En) : Prop where
  blk : Blk w c 103 (caC dp lp room m (headOf L) (lastOf L) h r bd cn)
  ents : ∀ i e, L[i]? = some e → Blk w e.b 301 (enC e.k e.f (prevOf L i) (nextOf L i))
  nd : ∀ (i j : Nat) (e e' : En), L[i]? = some e → L[j]? = some e' → e.b = e'.b → i = j
/-- its blocks -/
def chfoot (c : Nat) (L : List En) (x : Nat) : Prop := x = c ∨ ∃ e ∈ L, x = e.b
section
variable {w w' : World} {c m : Nat} {dp lp : Option Addr} {room h r bd cn : Int} {L : List En} {i : Nat} {e : En}
theorem ChainAt.below (H : ChainAt w c m dp lp room h r bd cn L) (hb : Below w.heap.size w w') : ChainAt w' c m dp lp room h r bd cn L := ⟨H.blk.below hb H.blk.lt, fun i e he => (H.ents i e he).below hb (H.ents i e he).lt, H.nd⟩
theorem ChainAt.kept (H : ChainAt w c m dp lp room h r bd cn L) (hk : ∀ x, chfoot c L x → w'.heap[x]? = w.heap[x]?) : ChainAt w' c m dp lp room h r bd cn L := ⟨(hk c (.inl rfl)).trans H.blk, fun i e he => (hk e.b (.inr ⟨e, List.mem_of_getElem? he, rfl⟩)).trans (H.ents i e he), H.nd⟩
theorem ChainAt.lt (H : ChainAt w c m dp lp room h r bd cn L) (x : Nat) (hx : chfoot c L x) : x < w.heap.size := by
  rcases hx with rfl | ⟨e, he, rfl⟩
  · exact H.blk.lt
  · obtain ⟨i, hi⟩ := List.mem_iff_getElem?.1 he
    exact (H.ents i e hi).lt
end
end Go.Proofs.YtbcgpiocigjkoaaGreat

namespace Go.Proofs.YtbcgpiocigjkoaaGreat
open Go Go.RowKit
set_option linter.unusedSimpArgs false
set_option linter.unusedVariables false

/-- the map of the entries -/
def MapFor (w : World) (m : Nat) (L : List En) : Prop := ∃ es : List (Rf × Nat), MapIs rfV ptV w m es ∧ es.length = L.length ∧ (es.map Prod.fst).Nodup ∧ ∀ k b, findIn k es = some b ↔ ∃ e ∈ L, e.k = k ∧ e.b = b
/-- a cache's entries in the memory -/
structure CaAt (w : World) (c m : Nat) (dp lp : Option Addr) (room h r bd cn : Int) (L : List En) : Prop where
  ch : ChainAt w c m dp lp room h r bd cn L
  mp : MapFor w m L
/-- its blocks -/
def cafo (c m : Nat) (L : List En) (x : Nat) : Prop := chfoot c L x ∨ x = m
section
variable {w w' : World} {c m : Nat} {dp lp : Option Addr} {room h r bd cn : Int} {L : List En} {i : Nat} {e : En} {k : Rf}
theorem MapFor.of (H : MapFor w m L) (hk : w'.heap[m]? = w.heap[m]?) : MapFor w' m L := by
  obtain ⟨es, h1, h2⟩ := H
  exact ⟨es, h1.of hk, h2⟩
theorem MapFor.lt (H : MapFor w m L) : m < w.heap.size := by
  obtain ⟨es, h1, h2⟩ := H
  exact h1.lt
theorem CaAt.below (H : CaAt w c m dp lp room h r bd cn L) (hb : Below w.heap.size w w') : CaAt w' c m dp lp room h r bd cn L := ⟨H.ch.below hb, H.mp.of (hb.block m H.mp.lt)⟩
theorem CaAt.drew (H : CaAt w c m dp lp room h r bd cn L) : CaAt w.drew c m dp lp room h r bd cn L := H.below (Below.refl _ _).drew
theorem CaAt.kept (H : CaAt w c m dp lp room h r bd cn L) (hk : ∀ x, cafo c m L x → w'.heap[x]? = w.heap[x]?) : CaAt w' c m dp lp room h r bd cn L := ⟨H.ch.kept fun x hx => hk x (.inl hx), H.mp.of (hk m (.inr rfl))⟩
theorem CaAt.lt (H : CaAt w c m dp lp room h r bd cn L) (x : Nat) (hx : cafo c m L x) : x < w.heap.size := by
  rcases hx with hx | rfl
  · exact H.ch.lt x hx
  · exact H.mp.lt
theorem CaAt.setRow (H : CaAt w c m dp lp room h r bd cn L) {b : Nat} (hb : ¬ cafo c m L b) (cs : Array Value) : CaAt (w.setRow b cs) c m dp lp room h r bd cn L := H.kept fun x hx => setRow_other w b x cs fun e => hb (e ▸ hx)
theorem CaAt.one (H : CaAt w c m dp lp room h r bd cn L) {e e' : En} (he : e ∈ L) (he' : e' ∈ L) (hk : e.k = e'.k) : e.b = e'.b := by
  obtain ⟨es, h1, h2, h3, h4⟩ := H.mp
  have h5 := (h4 e.k e.b).2 ⟨e, he, rfl, rfl⟩
  have h6 := (h4 e.k e'.b).2 ⟨e', he', hk.symm, rfl⟩
  rw [h5] at h6
  injection h6
theorem mem_erased {x : En} (hx : x ∈ L.eraseIdx i) : x ∈ L := by
  obtain ⟨j, _, hj⟩ := List.mem_eraseIdx_iff_getElem?.1 hx
  exact List.mem_of_getElem? hj
theorem ChainAt.other (H : ChainAt w c m dp lp room h r bd cn L) (hi : L[i]? = some e) (j : Nat) (e' : En) (hj : (L.eraseIdx i)[j]? = some e') : e'.b ≠ e.b := fun hb => by
  rw [List.getElem?_eraseIdx] at hj
  split at hj
  · have := H.nd _ _ _ _ hj hi hb
    omega
  · have := H.nd _ _ _ _ hj hi hb
    omega
end
end Go.Proofs.YtbcgpiocigjkoaaGreat

namespace Go.Proofs.YtbcgpiocigjkoaaGreat
open Go Go.RowKit
set_option linter.unusedSimpArgs false
set_option linter.unusedVariables false

/-- the entries but the one of a reference, if it is there -/
def PutL (L : List En) (k : Rf) (L1 : List En) : Prop := (∃ i e, L[i]? = some e ∧ e.k = k ∧ L1 = L.eraseIdx i) ∨ ((∀ e ∈ L, e.k ≠ k) ∧ L1 = L)
theorem PutL.sub {L L1 : List En} {k : Rf} (h : PutL L k L1) {x : En} (hx : x ∈ L1) : x ∈ L := by
  rcases h with ⟨i, e, _, _, rfl⟩ | ⟨_, rfl⟩
  · exact mem_erased hx
  · exact hx
theorem PutL.foot {L L1 : List En} {k : Rf} (h : PutL L k L1) {c m x : Nat} (hx : cafo c m L1 x) : cafo c m L x := by
  rcases hx with (hx | ⟨e, he, hx⟩) | hx
  · exact .inl (.inl hx)
  · exact .inl (.inr ⟨e, h.sub he, hx⟩)
  · exact .inr hx
section
variable {w w' : World} {c m : Nat} {dp lp : Option Addr} {room h r bd cn : Int} {L L1 : List En} {i : Nat} {e : En} {k : Rf}
theorem PutL.none (H : CaAt w c m dp lp room h r bd cn L) (hp : PutL L k L1) : ∀ e ∈ L1, e.k ≠ k := by
  rcases hp with ⟨i, e, hi, rfl, rfl⟩ | ⟨hn, rfl⟩
  · intro x hx hk
    obtain ⟨j, hj, hj2⟩ := List.mem_eraseIdx_iff_getElem?.1 hx
    exact hj (H.ch.nd _ _ _ _ hj2 hi (H.one (List.mem_of_getElem? hj2) (List.mem_of_getElem? hi) hk))
  · exact hn
theorem MapFor.len (H : MapFor w m L) (ty : TypeId) : (Builtin.len_ #[95] ty #[.map (some m)]).run Tryz.prog w = .ok (.int .i64 (L.length : Int)) w := by
  obtain ⟨es, h1, h2, _⟩ := H
  have := map_len h1 ty
  rw [h2] at this
  exact this
end
section
variable {w w' : World} {c m room : Nat} {dp lp : Option Addr} {h r bd cn : Int} {L L1 : List En} {i : Nat} {e : En} {k : Rf}
end
end Go.Proofs.YtbcgpiocigjkoaaGreat

namespace Go.Proofs.YtbcgpiocigjkoaaGreat
open Go Go.RowKit
set_option linter.unusedSimpArgs false
set_option linter.unusedVariables false

section
variable {w w' : World} {c m B g N kk lg room : Nat} {F : Nat → Nat} {q q' : QD} {dp lp : Option Addr} {h r bd cn h2 r2 bd2 cn2 : Int} {L L1 : List En} {i : Nat} {e : En} {k : Rf}
/-- a disk and a cache on it -/
structure CD (w : World) (B g N : Nat) (F : Nat → Nat) (kk lg : Nat) (q : QD) (c m room : Nat) (h r bd cn : Int) (L : List En) : Prop where
  d : DiskQ w B g N F kk lg q
  ca : CaAt w c m (some ⟨g, 0, none⟩) none (room : Int) h r bd cn L
  ap : ∀ x, cafo c m L x → ¬ foot g N q x
  lo : ∀ x, cafo c m L x → B ≤ x
/-- its blocks -/
def cdfo (g N : Nat) (q : QD) (c m : Nat) (L : List En) (x : Nat) : Prop := foot g N q x ∨ cafo c m L x
theorem CD.below (H : CD w B g N F kk lg q c m room h r bd cn L) (hb : Below w.heap.size w w') : CD w' B g N F kk lg q c m room h r bd cn L := ⟨H.d.below hb, H.ca.below hb, H.ap, H.lo⟩
theorem CD.kept (H : CD w B g N F kk lg q c m room h r bd cn L) (hk : ∀ x, cdfo g N q c m L x → w'.heap[x]? = w.heap[x]?) : CD w' B g N F kk lg q c m room h r bd cn L := ⟨H.d.kept fun x hx => hk x (.inl hx), H.ca.kept fun x hx => hk x (.inr hx), H.ap, H.lo⟩
theorem CD.lt (H : CD w B g N F kk lg q c m room h r bd cn L) (x : Nat) (hx : cdfo g N q c m L x) : B ≤ x ∧ x < w.heap.size := by
  rcases hx with hx | hx
  · exact H.d.foots x hx
  · exact ⟨H.lo x hx, H.ca.lt x hx⟩
end
section
variable {c m B g N kk lg room : Nat} {F : Nat → Nat} {q : QD} {dp lp : Option Addr} {h r bd cn : Int} {L L1 : List En} {i : Nat} {e : En} {k : Rf}
end
end Go.Proofs.YtbcgpiocigjkoaaGreat

namespace Go.Proofs.YtbcgpiocigjkoaaGreat
open Go Go.RowKit
set_option linter.unusedSimpArgs false
set_option linter.unusedVariables false

/-- a block of the disk -/
def blkAt (F : Nat → Nat) (a : Nat) : Nat → Nat := fun j => F (a * 256 + j)
/-- is what a reference says there? -/
def gotOk (F : Nat → Nat) (N : Nat) (k : Rf) : Prop := k.1 ≠ 0 ∧ k.1 < N ∧ dgB (blkAt F k.1) = k.2
instance (F : Nat → Nat) (N : Nat) (k : Rf) : Decidable (gotOk F N k) := by unfold gotOk; infer_instance
/-- entries that say what the disk says -/
def ValidL (F : Nat → Nat) (N : Nat) (L : List En) : Prop := ∀ e ∈ L, e.k ≠ rf0 ∧ gotOk F N e.k ∧ e.f = blkAt F e.k.1
/-- a disk and a cache, behind i calls at most; U: their blocks -/
structure TD (W : World) (B g N : Nat) (F : Nat → Nat) (c m room i : Nat) (U : Nat → Prop) : Prop where
  ex : ∃ q kk lg h r bd cn L, CD W B g N F kk lg q c m room h r bd cn L ∧ Quiet q kk ∧ kk ≤ i ∧ lg ≤ i ∧ (0 ≤ h ∧ h ≤ (i : Int)) ∧ (0 ≤ r ∧ r ≤ (i : Int)) ∧ (0 ≤ bd ∧ bd ≤ (i : Int)) ∧ ValidL F N L ∧ ∀ x, U x ↔ cdfo g N q c m L x
  nz : 0 < N
  nN : N ≤ 8192
  rm : room ≤ 4096
  hB : B ≤ W.heap.size
section
variable {W W' : World} {B g N c m room i : Nat} {F : Nat → Nat} {U : Nat → Prop}
theorem TD.below (H : TD W B g N F c m room i U) (hb : Below W.heap.size W W') : TD W' B g N F c m room i U := by
  obtain ⟨q, kk, lg, h, r, bd, cn, L, h1, h2⟩ := H.ex
  exact ⟨⟨q, kk, lg, h, r, bd, cn, L, h1.below hb, h2⟩, H.nz, H.nN, H.rm, Nat.le_trans H.hB hb.size⟩
theorem TD.kept (H : TD W B g N F c m room i U) (hs : W.heap.size ≤ W'.heap.size) (hk : ∀ x, U x → W'.heap[x]? = W.heap[x]?) : TD W' B g N F c m room i U := by
  obtain ⟨q, kk, lg, h, r, bd, cn, L, h1, h2, h3, h4, h5, h6, h7, h8, h9⟩ := H.ex
  exact ⟨⟨q, kk, lg, h, r, bd, cn, L, h1.kept fun x hx => hk x ((h9 x).2 hx), h2, h3, h4, h5, h6, h7, h8, h9⟩, H.nz, H.nN, H.rm, Nat.le_trans H.hB hs⟩
theorem TD.lt (H : TD W B g N F c m room i U) (x : Nat) (hx : U x) : B ≤ x ∧ x < W.heap.size := by
  obtain ⟨q, kk, lg, h, r, bd, cn, L, h1, h2, h3, h4, h5, h6, h7, h8, h9⟩ := H.ex
  exact h1.lt x ((h9 x).1 hx)
theorem TD.mono (H : TD W B g N F c m room i U) {j : Nat} (hj : i ≤ j) : TD W B g N F c m room j U := by
  obtain ⟨q, kk, lg, h, r, bd, cn, L, h1, h2, h3, h4, h5, h6, h7, h8, h9⟩ := H.ex
  exact ⟨⟨q, kk, lg, h, r, bd, cn, L, h1, h2, by omega, by omega, by omega, by omega, by omega, h8, h9⟩, H.nz, H.nN, H.rm, H.hB⟩
/-- what a call does to them -/
def TDStep (W W' : World) (B g N : Nat) (F : Nat → Nat) (c m room i : Nat) (U : Nat → Prop) : Prop := ∃ U', TD W' B g N F c m room i U' ∧ Turns U W W' ∧ ∀ x, U' x → U x ∨ W.heap.size ≤ x
theorem TDStep.trans {W1 W2 W3 : World} {i j : Nat} {U V : Nat → Prop} (ht : Turns U W1 W2) (hv : ∀ x, V x → U x ∨ W1.heap.size ≤ x) (h : TDStep W2 W3 B g N F c m room j V) : TDStep W1 W3 B g N F c m room j U := by
  obtain ⟨V', h1, h2, h3⟩ := h
  refine ⟨V', h1, ht.trans h2 hv, fun x hx => ?_⟩
  rcases h3 x hx with h | h
  · exact hv x h
  · exact .inr (Nat.le_trans ht.size h)
end
end Go.Proofs.YtbcgpiocigjkoaaGreat

namespace Go.Proofs.YtbcgpiocigjkoaaGreat
open Go Go.RowKit
set_option linter.unusedSimpArgs false
set_option linter.unusedVariables false

theorem and3 (z : Nat) (hz : z < 9223372036854775808) : bits .and .i64 (z : Int) 3 = ((z % 4 : Nat) : Int) := by
  have h1 : (BitVec.ofInt 64 (z : Int)).toNat = z := by
    rw [BitVec.ofInt_natCast, BitVec.toNat_ofNat]; exact Nat.mod_eq_of_lt (by omega)
  have h2 : (BitVec.ofInt 64 (3 : Int)).toNat = 3 := by decide
  show IntKind.i64.wrap ((BitVec.ofInt 64 (z : Int) &&& BitVec.ofInt 64 (3 : Int)).toNat : Int) = _
  rw [BitVec.toNat_and, h1, h2, Nat.and_two_pow_sub_one_eq_mod z 2, IntKind.wrap_i64]
  omega
theorem pow4_le (h : Nat) (hh : h ≤ 6) : 4 ^ h ≤ 4096 := Nat.pow_le_pow_right (n := 4) (by decide) hh
/-- the least height -/
def hgt (n : Nat) : Nat := if n ≤ 1 then 0 else if n ≤ 4 then 1 else if n ≤ 16 then 2 else if n ≤ 64 then 3 else if n ≤ 256 then 4 else if n ≤ 1024 then 5 else 6
theorem hgt_eq (n k : Nat) (hk : k ≤ 6) (h1 : n ≤ 4 ^ k) (h2 : ∀ j, j < k → 4 ^ j < n) : hgt n = k := by
  unfold hgt
  have g0 := h2 0
  have g1 := h2 1
  have g2 := h2 2
  have g3 := h2 3
  have g4 := h2 4
  have g5 := h2 5
  obtain rfl | rfl | rfl | rfl | rfl | rfl | rfl : k = 0 ∨ k = 1 ∨ k = 2 ∨ k = 3 ∨ k = 4 ∨ k = 5 ∨ k = 6 := by omega
  all_goals simp only [Nat.reducePow, Nat.lt_irrefl, Nat.zero_lt_succ, true_implies, Nat.reduceLT] at g0 g1 g2 g3 g4 g5 h1
  all_goals (repeat' split) <;> omega
theorem mayBe_yes (h : Nat) (hh : h ≤ 6) (w : World) : Calls Tryz.prog 143 #[.int .i64 (h : Int)] w fun e w' => e = .returned (.bool true) ∧ w = w' := by
  have hd : decide ((h : Int) ≤ 6) = true := decide_eq_true (by omega)
  go_enter Tryz.func143, Tryz.ntmps143
  go_wp2
  go_ret
  exact ⟨rfl, rfl⟩
theorem mayBe_no (h : Int) (hh : h < 0 ∨ 6 < h) (w : World) : Calls Tryz.prog 143 #[.int .i64 h] w fun e w' => e = .returned (.bool false) ∧ w = w' := by
  go_enter Tryz.func143, Tryz.ntmps143
  rcases hh with hh | hh
  · go_wp2
    go_ret
    exact ⟨rfl, rfl⟩
  · have h0 : 0 ≤ h := by omega
    have hd : decide (h ≤ 6) = false := decide_eq_false (by omega)
    go_wp2
    go_ret
    exact ⟨rfl, rfl⟩
theorem wrap_pow4 (p h : Nat) (hp : p * 4 ^ h < 9223372036854775808) : wrap64 ((p : Int) * 2 ^ (2 * h)) = ((p * 4 ^ h : Nat) : Int) := by
  have e : ((p : Int) * 2 ^ (2 * h)) = ((p * 4 ^ h : Nat) : Int) := by
    rw [show (4 : Nat) ^ h = 2 ^ (2 * h) by rw [Nat.pow_mul]]
    push_cast
    rfl
  rw [e, ← IntWalk.i64_left, IntKind.wrap_i64]
  omega
theorem firstLeaf_any (h p c : Nat) (hh : h ≤ 6) (hc : p * 4 ^ h = c) (hp : p < 1099511627776) (w : World) : Calls Tryz.prog 144 #[.int .i64 (h : Int), .int .i64 (p : Int)] w fun e w' => e = .returned (.int .i64 (c : Int)) ∧ w = w' := by
  have hq : p * 4 ^ h < 9223372036854775808 := by
    have h1 := pow4_le h hh
    have h2 := Nat.mul_le_mul (Nat.le_of_lt hp) h1
    omega
  have h1 : (h : Int) ≤ 6 := by omega
  go_enter Tryz.func144, Tryz.ntmps144
  go_wp2
  go_ret
  refine ⟨congrArg (fun x => Ending.returned (.int .i64 x)) ?_, rfl⟩
  rw [← hc]
  exact wrap_pow4 p h hq
theorem capacity_ok (h c : Nat) (hh : h ≤ 6) (hc : 4 ^ h = c) (w : World) : Calls Tryz.prog 106 #[.int .i64 (h : Int)] w fun e w' => e = .returned (.tuple #[.int .i64 (c : Int), .int .i64 0]) ∧ w = w' := by
  go_enter Tryz.func106, Tryz.ntmps106
  go_wp2_with fail
  refine (mayBe_yes h hh w).mono ?_
  rintro e _ ⟨rfl, rfl⟩
  go_wp2_with fail
  refine (firstLeaf_any h 1 c hh (by omega) (by decide) w).mono ?_
  rintro e _ ⟨rfl, rfl⟩
  go_wp2_with fail
  go_ret2
  exact ⟨rfl, rfl⟩
theorem refCap_any (h c : Nat) (hh : h ≤ 6) (hc : 4 ^ h = c) (w : World) : Calls Tryz.prog 33 #[.int .i64 (h : Int)] w fun e w' => e = .returned (.int .i64 (c : Int)) ∧ w = w' := by
  go_enter Tryz.func33, Tryz.ntmps33
  go_wp2_with fail
  go_loopw [3, 4] (fun n i wr => ∃ k b : Nat, k ≤ h ∧ i = .int .i64 (k : Int) ∧ n = .int .i64 (b : Int) ∧ 4 ^ k = b ∧ w = wr) (fun _ i _ => h - (intOf i).toNat)
  case atStart => exact ⟨0, 1, by omega, rfl, rfl, rfl, rfl⟩
  case round =>
    obtain ⟨k, b, hk, rfl, rfl, hb, rfl⟩ := hrel
    have h4 : b ≤ 4096 := hb ▸ pow4_le k (by omega)
    by_cases hlt : k < h
    · go_wp2_with fail
      go_roundw
      case rel => exact ⟨k + 1, b * 4, hlt, by congr 1, by congr 1, by rw [Nat.pow_succ, hb], by trivial⟩
      case measure =>
        simp only [intOf]
        omega
    · have hkh : k = h := by omega
      subst hkh
      have hbc : b = c := by omega
      subst hbc
      go_wp2_with fail
      go_ret
      exact ⟨rfl, rfl⟩
theorem refHeight_any (n v : Nat) (hn : n ≤ 4096) (hv : hgt n = v) (w : World) : Calls Tryz.prog 9 #[.int .i64 (n : Int)] w fun e w' => e = .returned (.int .i64 (v : Int)) ∧ w = w' := by
  go_enter Tryz.func9, Tryz.ntmps9
  go_wp2_with fail
  go_loopw [3] (fun i wr => ∃ k : Nat, k ≤ 6 ∧ i = .int .i64 (k : Int) ∧ (∀ j, j < k → 4 ^ j < n) ∧ w = wr) (fun i _ => 7 - (intOf i).toNat)
  case atStart => exact ⟨0, by omega, rfl, fun j hj => by omega, by trivial⟩
  case round =>
    obtain ⟨k, hk, rfl, hl, rfl⟩ := hrel
    obtain ⟨c, hc⟩ : ∃ c, 4 ^ k = c := ⟨_, rfl⟩
    go_wp2_with fail
    refine (refCap_any k c (by omega) hc w).mono ?_
    rintro e _ ⟨rfl, rfl⟩
    by_cases hle : n ≤ c
    · go_wp2_with fail
      go_ret
      have hkv : k = v := (hgt_eq n k (by omega) (by omega) hl).symm.trans hv
      subst hkv
      exact ⟨rfl, rfl⟩
    · have hk5 : k < 6 := by
        rcases Nat.lt_or_ge k 6 with h | h
        · exact h
        · rw [show k = 6 by omega] at hc
          omega
      go_wp2_with fail
      go_roundw
      case rel => exact ⟨k + 1, hk5, by congr 1, fun j hj => by
        rcases Nat.lt_or_ge j k with h | h
        · exact hl j h
        · rw [show j = k by omega, hc]
          omega, by trivial⟩
      case measure =>
        simp only [intOf]
        omega
/-- the place at step i of a way -/
def wayN (h p : Nat) : Nat → Nat := fun i => p / 4 ^ (h - 1 - i) % 4
theorem tinfoInt : (Tryz.prog.info? 3).map (fun i => (i.zero, i.size, i.bytes)) = some (some (.int .i64 0), 1, 8) := by kernel_rfl
theorem tinfo_parts {t : TypeId} {z : Value} {n b : Nat} (h : (Tryz.prog.info? t).map (fun i => (i.zero, i.size, i.bytes)) = some (some z, n, b)) : ∃ i, Tryz.prog.info? t = some i ∧ i.zero = some z ∧ i.size = n ∧ i.bytes = b := by
  cases hq : Tryz.prog.info? t with
  | none => simp [hq] at h
  | some i =>
    simp [hq] at h
    exact ⟨i, rfl, h.1, h.2.1, h.2.2⟩
theorem tmade_one (v : Value) (n : Nat) : madeCells #[v] n = va n fun _ => v := by
  refine va_ext (size_madeCells _ _) fun i hi => ?_
  unfold madeCells
  simp [hi, Nat.mod_one]
theorem tmake_ints (n : Nat) (hn : n ≤ 8192) (w : World) : (Instr.makeSlice 50 (.int .i64 (n : Int)) (.int .i64 (n : Int))).run Tryz.prog w = .ok (.slice (some ⟨w.heap.size, 0, none⟩) n n) (w.alloc (.cells (va n (iv .i64 fun _ => 0)) 3)) := by
  obtain ⟨i0, hi, hz0, hz1, hz2⟩ := tinfo_parts tinfoInt
  have := run_make (P := Tryz.prog) w 50 3 i0 (.int .i64 0) Tryz.underlying50 hi hz0 .i64 .i64 (n : Int) (n : Int) (by omega) (Int.le_refl _) (by rw [hz2]; omega) (by omega)
  rw [hz1] at this
  simp only [Int.toNat_natCast, Value.cells, tmade_one, Nat.mul_one] at this
  exact this
theorem shr_way (p k : Nat) : (p : Int) / 2 ^ (2 * k) = ((p / 4 ^ k : Nat) : Int) := by
  rw [show (4 : Nat) ^ k = 2 ^ (2 * k) by rw [Nat.pow_mul]]
  push_cast
  rfl
set_option maxHeartbeats 1000000 in
theorem way_ok (h p : Nat) (hh : h ≤ 6) (hp : p < 4 ^ h) (w : World) : Calls Tryz.prog 174 #[.int .i64 (h : Int), .int .i64 (p : Int)] w fun e w' => e = .returned (.tuple #[.slice (some ⟨w.heap.size, 0, none⟩) h h, .int .i64 0]) ∧ Blk w' w.heap.size 3 (va h (iv .i64 (wayN h p))) ∧ Below w.heap.size w w' := by
  obtain ⟨c, hc⟩ : ∃ c, 4 ^ h = c := ⟨_, rfl⟩
  have hc4 : c ≤ 4096 := hc ▸ pow4_le h hh
  rw [hc] at hp
  have hmk := tmake_ints h (by omega)
  have h6 : (h : Int) ≤ 6 := by omega
  have hd1 : decide ((p : Int) < 0) = false := decide_eq_false (by omega)
  have hd2 : decide (c ≤ p) = false := decide_eq_false (by omega)
  have HC : Hid (4 ^ h = c) := hc
  clear hc
  go_enter Tryz.func174, Tryz.ntmps174
  go_wp2_with fail
  refine (capacity_ok h c hh HC.out w).mono ?_
  rintro e _ ⟨rfl, rfl⟩
  go_wp2_with fail
  have b0 := Blk.new w 3 (va h (iv .i64 fun _ => 0))
  have hb0 : Below w.heap.size w (w.alloc (.cells (va h (iv .i64 fun _ => 0)) 3)) := (Below.refl _ _).alloc (Nat.le_refl _) _
  generalize (w.alloc (.cells (va h (iv .i64 fun _ => 0)) 3)) = w1 at *
  go_loopw [29] (fun i wr => ∃ k : Nat, k ≤ h ∧ i = .int .i64 (k : Int) ∧ Blk wr w.heap.size 3 (va h (iv .i64 (fupN k (wayN h p) fun _ => 0))) ∧ Below w.heap.size w wr) (fun i _ => h - (intOf i).toNat)
  case atStart => exact ⟨0, Nat.zero_le _, rfl, by rw [fup_zero]; exact b0, hb0⟩
  case round =>
    clear b0 hb0
    obtain ⟨k, hk, rfl, bk, hb⟩ := hrel
    by_cases hlt : k < h
    · have hfz := bk.frozen k
      have hcv := bk.cv hlt
      obtain ⟨l, hl⟩ : ∃ l : Nat, l = h - 1 - k := ⟨_, rfl⟩
      have hl1 : (h : Int) - 1 - (k : Int) = (l : Int) := by omega
      have hl6 : (l : Int) ≤ 6 := by omega
      have hv : bits .and .i64 ((p : Int) / 2 ^ (2 * (h - 1 - k))) 3 = ((wayN h p k : Nat) : Int) := by
        rw [shr_way, and3 _ (Nat.lt_of_le_of_lt (Nat.div_le_self _ _) (by omega))]
        rfl
      have bk1 := bk.put k (.int .i64 (wayN h p k : Int))
      rw [va_set, fup_step] at bk1
      go_wp2_with fail
      refine ⟨⟨k + 1, hlt, rfl, bk1, hb.setCell (p := ⟨w.heap.size, k, none⟩) (Nat.le_refl _) _⟩, ?_⟩
      simp only [intOf]
      omega
    · have hkh : k = h := by omega
      subst hkh
      go_wp2_with fail
      go_ret2
      refine ⟨rfl, ?_, hb⟩
      rw [fup_all _ _ _ _ _ (Nat.le_refl _)] at bk
      exact bk
end Go.Proofs.YtbcgpiocigjkoaaGreat

namespace Go.Proofs.YtbcgpiocigjkoaaGreat
open Go Go.RowKit
set_option linter.unusedSimpArgs false
set_option linter.unusedVariables false

set_option maxRecDepth 100000 in
set_option maxHeartbeats 4000000 in
theorem rnone_any (r : Rf) (w : World) : Calls Tryz.prog 10 #[.agg (rfC r)] w fun e w' => e = .returned (.bool (decide (r = rf0))) ∧ Below w.heap.size w w' := by
  have r0 : Blk (w.alloc (.cells (rfC r) 40)) w.heap.size 40 (rfC r) := Blk.new _ _ _
  have hb : Below w.heap.size w (w.alloc (.cells (rfC r) 40)) := below_new1 _ _
  have hz := zero_rref
  have hq : ∀ W, (Op.equalIn 10000 40 (.agg (rfC r)) (.agg (rfC rf0))).run Tryz.prog W = .ok (decide (r = rf0)) W := eq_rref 9997 r rf0
  obtain ⟨b, hbd⟩ : ∃ b, b = decide (r = rf0) := ⟨_, rfl⟩
  rw [← hbd] at hq ⊢
  clear hbd
  go_enter Tryz.func10, Tryz.ntmps10
  go_wp2_with (first
    | (refine wpList_load_rowg (by rfl) 40 _ (by rfl) (w.heap.size) (by rfl) 40 (rfC r) (0, 0) _ (by exact r0) Tryz.underlying40 (by rfl) (sizeRref.trans (by rw [rfC_size])) ?_; simp only [Act.put, List.setIfInBounds_toArray, List.set_cons_zero, List.set_cons_succ])
    | fail)
  go_ret
  exact ⟨rfl, hb⟩
set_option maxRecDepth 100000 in
set_option maxHeartbeats 4000000 in
theorem rright_any (r : Rf) (w : World) : Calls Tryz.prog 8 #[.agg (rfC r)] w fun e w' => e = .returned (.bool (rOk r)) ∧ Below w.heap.size w w' := by
  have r0 : Blk (w.alloc (.cells (rfC r) 40)) w.heap.size 40 (rfC r) := Blk.new _ _ _
  have hb : Below w.heap.size w (w.alloc (.cells (rfC r) 40)) := below_new1 _ _
  have hsz : (w.alloc (.cells (rfC r) 40)).heap.size = w.heap.size + 1 := by simp
  have hn : Hid (∀ w, Calls Tryz.prog 10 #[.agg (rfC r)] w fun e w' => e = .returned (.bool (decide (r = rf0))) ∧ Below w.heap.size w w') := rnone_any r
  have hx : (w.alloc (.cells (rfC r) 40)).cell? ⟨w.heap.size, 0, none⟩ = some (.int .u32 (r.1 : Int)) := by
    rw [r0.cell]
    exact va_at (rfF r.1 r.2) (by decide)
  have HO : Hid (rOk r = (decide (r = rf0) || decide (r.1 ≠ 0))) := rfl
  obtain ⟨b, hbd⟩ : ∃ b, b = decide (r = rf0) := ⟨_, rfl⟩
  obtain ⟨n, hnd⟩ : ∃ n, n = r.1 := ⟨_, rfl⟩
  rw [← hbd] at hn HO
  rw [← hnd] at hx HO
  clear hbd hnd
  go_enter Tryz.func8, Tryz.ntmps8
  go_wp2_with (first
    | (refine wpList_load_rowg (by rfl) 40 _ (by rfl) (w.heap.size) (by rfl) 40 (rfC r) (0, 0) _ (by exact r0) Tryz.underlying40 (by rfl) (sizeRref.trans (by rw [rfC_size])) ?_; simp only [Act.put, List.setIfInBounds_toArray, List.set_cons_zero, List.set_cons_succ])
    | fail)
  generalize (w.alloc (.cells (rfC r) 40)) = w1 at *
  refine (hn.out w1).mono ?_
  rintro e w2 ⟨rfl, hb2⟩
  have r2 : Blk w2 w.heap.size 40 (rfC r) := r0.below hb2 (by omega)
  have hx2 : w2.cell? ⟨w.heap.size, 0, none⟩ = some (.int .u32 (n : Int)) := by
    rw [← hx, r2.cell, r0.cell]
  have hb3 : Below w.heap.size w w2 := hb.trans (hb2.mono (by omega))
  clear hn hx r0 hb hb2 r2
  cases b
  · go_wp2_with fail
    go_ret
    refine ⟨?_, hb3⟩
    rw [HO.out]
    by_cases h0 : n = 0
    · subst h0
      rfl
    · have : ¬ (n : Int) = 0 := by omega
      simp [h0, this]
  · go_wp2_with fail
    go_ret
    refine ⟨?_, hb3⟩
    rw [HO.out]
    rfl
end Go.Proofs.YtbcgpiocigjkoaaGreat

namespace Go.Proofs.YtbcgpiocigjkoaaGreat
open Go Go.RowKit
set_option linter.unusedSimpArgs false
set_option linter.unusedVariables false

theorem le4_dig (n : Nat) (h : n < 4294967296) : le4 (dig n 0) (dig n 1) (dig n 2) (dig n 3) = n := by
  unfold le4 dig
  simp
  omega
/-- what Encode lays, Decode takes -/
theorem decR_of (s : ByteArray) (a : Nat) (r : Rf) (hr : r.1 < 4294967296) (h : ∀ j, j < 36 → tbyte s (a + j) = encR r j) : decR s a = r := by
  obtain ⟨n, d⟩ := r
  unfold decR at4
  have e : ∀ j, j < 4 → tbyte s (a + j) = dig n j := fun j hj => by
    rw [h j (by omega)]
    unfold encR
    rw [if_pos hj]
  have e0 : tbyte s a = dig n 0 := e 0 (by decide)
  rw [e0, e 1 (by decide), e 2 (by decide), e 3 (by decide), le4_dig n hr]
  have e2 : (sumD fun i => tbyte s (a + 4 + i)) = d := dF_inj fun i hi => by
    rw [dF_sumD _ i hi]
    have := h (4 + i) (by omega)
    rw [show a + (4 + i) = a + 4 + i by omega] at this
    rw [this]
    unfold encR
    rw [if_neg (by omega), show 4 + i - 4 = i by omega]
  rw [e2]
end Go.Proofs.YtbcgpiocigjkoaaGreat

namespace Go.Proofs.YtbcgpiocigjkoaaGreat
open Go Go.RowKit
set_option linter.unusedSimpArgs false
set_option linter.unusedVariables false

/-- a tree's cells -/
def trF (h : Int) (R : Rf) : Nat → Value := fun i => if i = 0 then .int .i64 h else rfF R.1 R.2 (i - 1)
def trC (h : Int) (R : Rf) : Array Value := va 34 (trF h R)
/-- a position's cells -/
def poF (l p : Int) (R : Rf) : Nat → Value := fun i => if i = 0 then .int .i64 l else if i = 1 then .int .i64 p else rfF R.1 R.2 (i - 2)
def poC (l p : Int) (R : Rf) : Array Value := va 35 (poF l p R)
theorem trC_size (h : Int) (R : Rf) : (trC h R).size = 34 := va_size _ _
theorem poC_size (l p : Int) (R : Rf) : (poC l p R).size = 35 := va_size _ _
theorem trC_all (h : Int) (R : Rf) : (trC h R).all (·.oneCell') = true := va_one fun i _ => by
  unfold trF
  split
  · rfl
  · exact rfF_one _ _ _
theorem poC_all (l p : Int) (R : Rf) : (poC l p R).all (·.oneCell') = true := va_one fun i _ => by
  unfold poF
  split
  · rfl
  · split
    · rfl
    · exact rfF_one _ _ _
theorem sizeTr : (Tryz.prog.info? 28).map (·.size) = some 34 := by kernel_rfl
theorem sizePo : (Tryz.prog.info? 222).map (·.size) = some 35 := by kernel_rfl
theorem tsizeRef : (Tryz.prog.info? 26).map (·.size) = some 33 := by kernel_rfl
theorem zero_po (w : World) : (zeroValue 222).run Tryz.prog w = .ok (.agg (poC 0 0 rf0)) w := zero_of (by kernel_rfl) w
theorem built_po2 (l : Int) (R : Rf) : Tryz.prog.built 222 [(0, .int .i64 l), (2, .agg (rfC R))] = some (poC l 0 R) := by kernel_rfl
theorem tr_range {w : World} {b t : Nat} {h : Int} {R : Rf} (H : Blk w b t (trC h R)) : w.rangeAt b 1 ((List.range 33).map (rfF R.1 R.2)) := by
  have := Blk.range (n := 34) (f := trF h R) H 1 33 (by decide)
  rw [show ((List.range 33).map fun j => trF h R (1 + j)) = (List.range 33).map (rfF R.1 R.2) from List.map_congr_left fun j hj => ?_] at this
  · exact this
  · unfold trF
    rw [if_neg (by omega), show 1 + j - 1 = j by omega]
theorem po_range {w : World} {b t : Nat} {l p : Int} {R : Rf} (H : Blk w b t (poC l p R)) : w.rangeAt b 2 ((List.range 33).map (rfF R.1 R.2)) := by
  have := Blk.range (n := 35) (f := poF l p R) H 2 33 (by decide)
  rw [show ((List.range 33).map fun j => poF l p R (2 + j)) = (List.range 33).map (rfF R.1 R.2) from List.map_congr_left fun j hj => ?_] at this
  · exact this
  · unfold poF
    rw [if_neg (by omega), if_neg (by omega), show 2 + j - 2 = j by omega]
theorem tr_build2 {P : Program} {ops : Array Oper} {rest : List Oper} {o : Oper} {a : Act} {w : World} {Q : Exit → Act → World → Prop} (hg : o.guard = none) (t : TypeId) (i j : Nat) (x y : Operand) (ho : o.op = .build t #[(i, x), (j, y)]) (vx vy : Value) (hx : a.eval x = vx) (hy : a.eval y = vy)
    (cells : Array Value) (hf : P.built t [(i, vx), (j, vy)] = some cells) (h : wpList P ops Q rest (a.put o.dst (.agg cells)) w) : wpList P ops Q (o :: rest) a w := by
  refine wpList_buildTo hg t _ ho o.dst rfl cells ?_ h
  have e : (Array.map (fun (x : Nat × Operand) => match x with | (i, x) => (i, a.eval x)) #[(i, x), (j, y)]).toList = [(i, vx), (j, vy)] := by simp [hx, hy]
  rw [e]
  exact hf
set_option maxRecDepth 100000 in
set_option maxHeartbeats 4000000 in
theorem root_any (h : Int) (R : Rf) (w : World) : Calls Tryz.prog 163 #[.agg (trC h R)] w fun x w' => x = .returned (.agg (poC h 0 R)) ∧ Below w.heap.size w w' := by
  have hz := zero_po
  have hb1 : Below w.heap.size w ((w.alloc (.cells (trC h R) 28)).alloc (.cells (poC 0 0 rf0) 222)) := below_new2 _ _ _
  have t1 : Blk ((w.alloc (.cells (trC h R) 28)).alloc (.cells (poC 0 0 rf0) 222)) w.heap.size 28 (trC h R) := (Blk.new _ _ _).alloc _
  have p1 : Blk ((w.alloc (.cells (trC h R) 28)).alloc (.cells (poC 0 0 rf0) 222)) (w.heap.size + 1) 222 (poC 0 0 rf0) := Blk.new1 _ _ _ _
  have z1 : ((w.alloc (.cells (trC h R) 28)).alloc (.cells (poC 0 0 rf0) 222)).cell? ⟨w.heap.size, 0, none⟩ = some (.int .i64 h) := (t1.cell 0).trans (va_at (trF h R) (by decide))
  have HR : Hid (((w.alloc (.cells (trC h R) 28)).alloc (.cells (poC 0 0 rf0) 222)).rangeAt w.heap.size 1 ((List.range 33).map (rfF R.1 R.2))) := tr_range t1
  have HB : Hid (Tryz.prog.built 222 [(0, .int .i64 h), (2, .agg (rfC R))] = some (poC h 0 R)) := built_po2 h R
  go_enter Tryz.func163, Tryz.ntmps163
  go_wp2_with (first
    | (refine wpList_load_blk (by rfl) 26 _ (by rfl) (w.heap.size) (1) 33 (rfF R.1 R.2) (by rfl) _ (by exact HR.out) Tryz.underlying26 rfl tsizeRef ?_; simp only [Act.put, List.setIfInBounds_toArray, List.set_cons_zero, List.set_cons_succ])
    | (refine tr_build2 (by rfl) 222 0 2 _ _ (by rfl) (.int .i64 h) (.agg (rfC R)) (by rfl) (by rfl) (poC h 0 R) (by exact HB.out) ?_; simp only [Act.put, List.setIfInBounds_toArray, List.set_cons_zero, List.set_cons_succ])
    | (refine wpList_store_row (by rfl) 222 _ _ (by rfl) (w.heap.size + 1) (poC h 0 R) (by rfl) (by rfl) 222 (_) (by exact p1) (sizePo.trans (by rw [poC_size])) (by simp only [poC_size]) (poC_all _ _ _) ?_; simp only [Act.put, List.setIfInBounds_toArray, List.set_cons_zero, List.set_cons_succ])
    | fail)
  try simp only [Exit.inBlock, Exit.then]
  refine bodyPost_ret (results_cell_row Tryz.results163 _ _ (w.heap.size + 1) 222 (poC h 0 R) (0, 0) _ rfl (p1.set _) Tryz.underlying222 rfl (sizePo.trans (by rw [poC_size]))) rfl ?_
  exact ⟨rfl, below_setRow hb1 (by omega) _⟩
end Go.Proofs.YtbcgpiocigjkoaaGreat

namespace Go.Proofs.YtbcgpiocigjkoaaGreat
open Go.ChangeShapes Go.WideShapes Go.ChangeAt Go.RowKit Go.Joins
set_option linter.unusedVariables false
set_option linter.unusedSimpArgs false

set_option maxRecDepth 100000 in
theorem open_tree {H : Type} {enc : TypeId × Value → H} {W : World} {r : Reach} {b0 : Nat} {v : Value} {d : DataW H} {p : List MemPlace}
    (hv : Value.okWide Tryz.prog W r b0 28 v) (h : DataW.Trod enc Tryz.prog W 0 (fun _ => true) true 28 v d p) :
    ∃ (n : Int) (s : Rf), v = .agg (trC n s) ∧ (-9223372036854775808 ≤ n ∧ n ≤ 9223372036854775807) ∧ s.1 < 4294967296 ∧ okD s.2 := by
  obtain ⟨cs, rfl, hcs⟩ := okWide_struct Tryz.underlying28 hv
  obtain ⟨fuel, hf⟩ := h
  have hc : Tryz.prog.cellsOf 28 = 34 := by kernel_rfl
  have hc8 : Tryz.prog.cellsOf 3 = 1 := by kernel_rfl
  have hcr : Tryz.prog.cellsOf 26 = 33 := by kernel_rfl
  rw [hc] at hcs
  have hl : cs.toList.length = 34 := by rw [Array.length_toList]; exact hcs
  have hf' : DataW.trod enc Tryz.prog W 0 (fun _ => true) true fuel 28 cs.toList = some (d, p) := hf
  obtain ⟨xs, k, hk, hxy, _, hxl, hfs⟩ := DataW.trod_struct Tryz.underlying28 hf'
  match xs, hxl with
  | [y0, y1], _ =>
    have g0 : DataW.trod enc Tryz.prog W 0 (fun _ => true) true k 3 ((cs.toList.drop 0).take (Tryz.prog.cellsOf 3)) = some y0 := hfs 0 _ rfl
    have g1 : DataW.trod enc Tryz.prog W 0 (fun _ => true) true k 26 ((cs.toList.drop 1).take (Tryz.prog.cellsOf 26)) = some y1 := hfs 1 _ rfl
    rw [hc8] at g0
    rw [hcr] at g1
    obtain ⟨c, e0, _, w0⟩ := DataW.trod_int Tryz.underlying3 g0
    have b0 := bounds_i64 w0
    have l0 : cs.toList[0]? = some (.int .i64 c) := nd_take_one e0
    obtain ⟨s, h0, h1, h2⟩ := open_ref_cells (by rw [List.length_take, List.length_drop, hl]; decide) g1
    refine ⟨c, s, ?_, b0, h1, h2⟩
    congr 1
    apply Array.toList_inj.1
    apply List.ext_getElem?
    intro i
    by_cases hi : i < 34
    · have hr : (trC c s).toList[i]? = some (trF c s i) := by
        have := va_at (trF c s) hi
        unfold trC
        simpa using this
      rw [hr]
      unfold trF
      by_cases h3 : i = 0
      · subst h3
        rw [if_pos rfl, l0]
      · rw [if_neg h3]
        have h4 := congrArg (fun z => z[i - 1]?) h0
        simp only [List.getElem?_take, List.getElem?_drop] at h4
        rw [if_pos (by omega), show 1 + (i - 1) = i by omega] at h4
        rw [h4]
        have := va_at (rfF s.1 s.2) (show i - 1 < 33 by omega)
        unfold rfC
        simpa using this
    · rw [List.getElem?_eq_none (by omega), List.getElem?_eq_none (by rw [Array.length_toList, trC_size]; omega)]
end Go.Proofs.YtbcgpiocigjkoaaGreat

namespace Go.Proofs.YtbcgpiocigjkoaaGreat
open Go Go.RowKit
set_option linter.unusedSimpArgs false
set_option linter.unusedVariables false
/-- an inode: kind, links, size, stamp, the height and root of its tree -/
structure Ino where
  k : Int
  l : Int
  s : Int
  t : Nat
  h : Int
  r : Rf
  deriving DecidableEq
def in0 : Ino := ⟨0, 0, 0, 0, 0, rf0⟩
def tiF (h : Int) (r : Rf) : Nat → Value := fun i => if i = 0 then .int .i64 h else rfF r.1 r.2 (i - 1)
def tiC (h : Int) (r : Rf) : Array Value := va 34 (tiF h r)
def inF (x : Ino) : Nat → Value := fun i => if i = 0 then .int .i64 x.k else if i = 1 then .int .i64 x.l else if i = 2 then .int .i64 x.s else if i = 3 then .int .u64 ((x.t : Nat) : Int) else tiF x.h x.r (i - 4)
theorem tiF_one (h : Int) (r : Rf) (i : Nat) : (tiF h r i).oneCell' = true := by
  unfold tiF
  split
  · rfl
  · exact rfF_one _ _ _
theorem inF_one (x : Ino) (i : Nat) : (inF x i).oneCell' = true := by
  unfold inF
  split
  · rfl
  · split
    · rfl
    · split
      · rfl
      · split
        · rfl
        · exact tiF_one _ _ _
/-- fields compared one by one -/
theorem eqF_cons {P : Program} {w : World} {d : Nat} {f : Field} {fs : List Field} {t o : Nat} {cs ds : Array Value} {x y : Value} {b B : Bool} (hf : (f.name == "_", f.type, f.offset) = (false, t, o)) (p : (part t cs o).run P w = .ok x w) (q : (part t ds o).run P w = .ok y w)
    (h : (Op.equalIn d t x y).run P w = .ok b w) (hr : (Op.eqFields d cs ds fs).run P w = .ok B w) : (Op.eqFields d cs ds (f :: fs)).run P w = .ok (b && B) w := by
  simp only [Prod.mk.injEq] at hf
  obtain ⟨n1, rfl, rfl⟩ := hf
  have n1' : f.name ≠ "_" := by simpa using n1
  unfold Op.eqFields
  rw [if_pos n1']
  simp only [Sem.run_bind, p, q, Result.andThen_ok, h]
  cases b
  · simp
  · simp only [Bool.not_true, Bool.false_eq_true, if_false, hr, Bool.true_and]
theorem run_eq_five {P : Program} {w : World} {d : Nat} {t t1 t2 t3 t4 t5 o1 o2 o3 o4 o5 : Nat} {cs ds : Array Value} {x1 y1 x2 y2 x3 y3 x4 y4 x5 y5 : Value} {b1 b2 b3 b4 b5 : Bool} (hu : P.underlying t = some (.struct (P.fieldsOf t))) (hp : P.stoodInHeld t = false)
    (hf : (P.fieldsOf t).toList.map (fun f => (f.name == "_", f.type, f.offset)) = [(false, t1, o1), (false, t2, o2), (false, t3, o3), (false, t4, o4), (false, t5, o5)])
    (p1 : (part t1 cs o1).run P w = .ok x1 w) (q1 : (part t1 ds o1).run P w = .ok y1 w) (p2 : (part t2 cs o2).run P w = .ok x2 w) (q2 : (part t2 ds o2).run P w = .ok y2 w) (p3 : (part t3 cs o3).run P w = .ok x3 w) (q3 : (part t3 ds o3).run P w = .ok y3 w)
    (p4 : (part t4 cs o4).run P w = .ok x4 w) (q4 : (part t4 ds o4).run P w = .ok y4 w) (p5 : (part t5 cs o5).run P w = .ok x5 w) (q5 : (part t5 ds o5).run P w = .ok y5 w)
    (h1 : (Op.equalIn d t1 x1 y1).run P w = .ok b1 w) (h2 : (Op.equalIn d t2 x2 y2).run P w = .ok b2 w) (h3 : (Op.equalIn d t3 x3 y3).run P w = .ok b3 w) (h4 : (Op.equalIn d t4 x4 y4).run P w = .ok b4 w) (h5 : (Op.equalIn d t5 x5 y5).run P w = .ok b5 w) :
    (Op.equalIn (d + 1) t (.agg cs) (.agg ds)).run P w = .ok (b1 && (b2 && (b3 && (b4 && (b5 && true))))) w := by
  rw [run_equalIn_struct w d t cs ds hu hp]
  obtain ⟨f1, l1, e1, hf1, hl1⟩ := List.map_eq_cons_iff.1 hf
  obtain ⟨f2, l2, e2, hf2, hl2⟩ := List.map_eq_cons_iff.1 hl1
  obtain ⟨f3, l3, e3, hf3, hl3⟩ := List.map_eq_cons_iff.1 hl2
  obtain ⟨f4, l4, e4, hf4, hl4⟩ := List.map_eq_cons_iff.1 hl3
  obtain ⟨f5, l5, e5, hf5, hl5⟩ := List.map_eq_cons_iff.1 hl4
  have e6 := List.map_eq_nil_iff.1 hl5
  subst e6 e5 e4 e3 e2
  rw [e1]
  exact eqF_cons hf1 p1 q1 h1 (eqF_cons hf2 p2 q2 h2 (eqF_cons hf3 p3 q3 h3 (eqF_cons hf4 p4 q4 h4 (eqF_cons hf5 p5 q5 h5 (by simp [Op.eqFields])))))
end Go.Proofs.YtbcgpiocigjkoaaGreat

namespace Go.Proofs.YtbcgpiocigjkoaaGreat
open Go Go.RowKit
set_option linter.unusedSimpArgs false
set_option linter.unusedVariables false
/-- the least height of a tree whose leaves hold a things each, for n things -/
def hL (a n : Int) : Int := if n ≤ a then 0 else if n ≤ 4 * a then 1 else if n ≤ 16 * a then 2 else if n ≤ 64 * a then 3 else if n ≤ 256 * a then 4 else if n ≤ 1024 * a then 5 else 6
theorem hL_lt (a n : Int) : 0 ≤ hL a n ∧ hL a n ≤ 6 := by
  unfold hL
  split
  · decide
  · split
    · decide
    · split
      · decide
      · split
        · decide
        · split
          · decide
          · split <;> decide
set_option maxHeartbeats 4000000 in
theorem least4 (n : Int) (h0 : -9223372036854775808 ≤ n) (hn : n ≤ 16384) (w : World) : Calls Tryz.prog 73 #[.int .i64 4, .int .i64 n] w fun e w' => e = .returned (.int .i64 (hL 4 n)) ∧ w' = w := by
  by_cases c0 : n ≤ 4
  · have HE : Hid (hL 4 n = 0) := by show hL 4 n = 0; unfold hL; rw [if_pos (by omega)]
    have s0 : ¬ ((4 : Int) < n) := by omega
    clear hn c0
    rw [HE.out]
    clear HE
    go_enter Tryz.func73, Tryz.ntmps73
    go_wp2
    go_rounds 1
    go_returns
    exact ⟨by simp, rfl⟩
  · skip
    by_cases c1 : n ≤ 16
    · have HE : Hid (hL 4 n = 1) := by show hL 4 n = 1; unfold hL; rw [if_neg (by omega)]; rw [if_pos (by omega)]
      have s0 : ¬ ((16 : Int) < n) := by omega
      have g0 : (4 : Int) < n := by omega
      clear hn c0 c1
      rw [HE.out]
      clear HE
      go_enter Tryz.func73, Tryz.ntmps73
      go_wp2
      go_rounds 2
      go_returns
      exact ⟨by simp, rfl⟩
    · skip
      by_cases c2 : n ≤ 64
      · have HE : Hid (hL 4 n = 2) := by show hL 4 n = 2; unfold hL; rw [if_neg (by omega)]; rw [if_neg (by omega)]; rw [if_pos (by omega)]
        have s0 : ¬ ((64 : Int) < n) := by omega
        have g0 : (4 : Int) < n := by omega
        have g1 : (16 : Int) < n := by omega
        clear hn c0 c1 c2
        rw [HE.out]
        clear HE
        go_enter Tryz.func73, Tryz.ntmps73
        go_wp2
        go_rounds 3
        go_returns
        exact ⟨by simp, rfl⟩
      · skip
        by_cases c3 : n ≤ 256
        · have HE : Hid (hL 4 n = 3) := by show hL 4 n = 3; unfold hL; rw [if_neg (by omega)]; rw [if_neg (by omega)]; rw [if_neg (by omega)]; rw [if_pos (by omega)]
          have s0 : ¬ ((256 : Int) < n) := by omega
          have g0 : (4 : Int) < n := by omega
          have g1 : (16 : Int) < n := by omega
          have g2 : (64 : Int) < n := by omega
          clear hn c0 c1 c2 c3
          rw [HE.out]
          clear HE
          go_enter Tryz.func73, Tryz.ntmps73
          go_wp2
          go_rounds 4
          go_returns
          exact ⟨by simp, rfl⟩
        · skip
          by_cases c4 : n ≤ 1024
          · have HE : Hid (hL 4 n = 4) := by show hL 4 n = 4; unfold hL; rw [if_neg (by omega)]; rw [if_neg (by omega)]; rw [if_neg (by omega)]; rw [if_neg (by omega)]; rw [if_pos (by omega)]
            have s0 : ¬ ((1024 : Int) < n) := by omega
            have g0 : (4 : Int) < n := by omega
            have g1 : (16 : Int) < n := by omega
            have g2 : (64 : Int) < n := by omega
            have g3 : (256 : Int) < n := by omega
            clear hn c0 c1 c2 c3 c4
            rw [HE.out]
            clear HE
            go_enter Tryz.func73, Tryz.ntmps73
            go_wp2
            go_rounds 5
            go_returns
            exact ⟨by simp, rfl⟩
          · skip
            by_cases c5 : n ≤ 4096
            · have HE : Hid (hL 4 n = 5) := by show hL 4 n = 5; unfold hL; rw [if_neg (by omega)]; rw [if_neg (by omega)]; rw [if_neg (by omega)]; rw [if_neg (by omega)]; rw [if_neg (by omega)]; rw [if_pos (by omega)]
              have s0 : ¬ ((4096 : Int) < n) := by omega
              have g0 : (4 : Int) < n := by omega
              have g1 : (16 : Int) < n := by omega
              have g2 : (64 : Int) < n := by omega
              have g3 : (256 : Int) < n := by omega
              have g4 : (1024 : Int) < n := by omega
              clear hn c0 c1 c2 c3 c4 c5
              rw [HE.out]
              clear HE
              go_enter Tryz.func73, Tryz.ntmps73
              go_wp2
              go_rounds 6
              go_returns
              exact ⟨by simp, rfl⟩
            · skip
              have HE : Hid (hL 4 n = 6) := by show hL 4 n = 6; unfold hL; rw [if_neg (by omega)]; rw [if_neg (by omega)]; rw [if_neg (by omega)]; rw [if_neg (by omega)]; rw [if_neg (by omega)]; rw [if_neg (by omega)]
              have s0 : ¬ ((16384 : Int) < n) := by omega
              have g0 : (4 : Int) < n := by omega
              have g1 : (16 : Int) < n := by omega
              have g2 : (64 : Int) < n := by omega
              have g3 : (256 : Int) < n := by omega
              have g4 : (1024 : Int) < n := by omega
              have g5 : (4096 : Int) < n := by omega
              clear hn c0 c1 c2 c3 c4 c5
              rw [HE.out]
              clear HE
              go_enter Tryz.func73, Tryz.ntmps73
              go_wp2
              go_rounds 7
              go_returns
              exact ⟨by simp, rfl⟩
end Go.Proofs.YtbcgpiocigjkoaaGreat

namespace Go.Proofs.YtbcgpiocigjkoaaGreat
open Go Go.RowKit
set_option linter.unusedSimpArgs false
set_option linter.unusedVariables false
set_option maxRecDepth 20000
def lnk (x : Ino) : Bool := if x.k = 1 then decide (1 ≤ x.l) && decide (x.l ≤ 1000) else if x.k = 2 then decide (x.l = 1) else false
def siz (x : Ino) : Bool := if x.k = 2 ∧ ¬ x.s.tmod 64 = 0 then false else decide (0 ≤ x.s) && decide (x.s ≤ 1048576)
def tre (x : Ino) : Bool := if x.h ≠ hL 256 x.s ∨ 8192 ≤ x.r.1 then false else decide (x.r = rf0) || (decide (x.r.1 ≠ 0) && decide (x.s ≠ 0))
def chk (x : Ino) : Bool := decide (x = in0) || (lnk x && (siz x && tre x))
end Go.Proofs.YtbcgpiocigjkoaaGreat

namespace Go.Proofs.YtbcgpiocigjkoaaGreat
open Go Go.RowKit
set_option linter.unusedSimpArgs false
set_option linter.unusedVariables false
set_option maxRecDepth 20000
theorem tdiv_nn (a b : Int) (h : 0 ≤ a) : a.tdiv b = a / b := Int.tdiv_eq_ediv_of_nonneg h
theorem tmod_nn (a b : Int) (h : 0 ≤ a) : a.tmod b = a % b := Int.tmod_eq_emod_of_nonneg h
set_option maxHeartbeats 4000000 in
theorem table_any (n : Int) (hn : -9223372036854775808 ≤ n ∧ n ≤ 9223372036854775807) (w : World) : Calls Tryz.prog 30 #[.int .i64 n] w fun e w' => e = .returned (if 0 ≤ n ∧ n ≤ 4096 then .tuple #[.int .i64 (hL 4 n), .int .i64 0] else .tuple #[.int .i64 0, .int .i64 141]) ∧ w' = w := by
  by_cases h1 : 0 ≤ n
  · by_cases h2 : n ≤ 4096
    · rw [if_pos ⟨h1, h2⟩]
      have HL : Hid (∀ w : World, Calls Tryz.prog 73 #[.int .i64 4, .int .i64 n] w fun e w' => e = .returned (.int .i64 (hL 4 n)) ∧ w' = w) := least4 n hn.1 (by omega)
      generalize hL 4 n = H at *
      have h3 : ¬ n < 0 := by omega
      have h4 : ¬ 4096 < n := by omega
      go_enter Tryz.func30, Tryz.ntmps30
      go_wp2_with fail
      refine (HL.out _).mono ?_
      intro e w2 hw2
      obtain ⟨he2, hb2⟩ := hw2
      subst he2 hb2
      go_wp2_with fail
      go_ret2
      exact ⟨rfl, rfl⟩
    · rw [if_neg fun h => h2 h.2]
      have h3 : ¬ n < 0 := by omega
      have h4 : 4096 < n := by omega
      clear h1 h2
      go_enter Tryz.func30, Tryz.ntmps30
      go_wp2_with fail
      go_ret2
      exact ⟨rfl, rfl⟩
  · rw [if_neg fun h => h1 h.1]
    have h3 : n < 0 := by omega
    clear h1
    go_enter Tryz.func30, Tryz.ntmps30
    go_wp2_with fail
    go_ret2
    exact ⟨rfl, rfl⟩
set_option maxHeartbeats 4000000 in
theorem place_any (n : Int) (hn : -9223372036854775808 ≤ n ∧ n ≤ 9223372036854775807) (w : World) : Calls Tryz.prog 75 #[.int .i64 n] w fun e w' => e = .returned (if 1 ≤ n ∧ n ≤ 4096 then .tuple #[.int .i64 ((n - 1) / 4), .int .i64 ((n - 1) % 4), .int .i64 0] else .tuple #[.int .i64 0, .int .i64 0, .int .i64 141]) ∧ w' = w := by
  by_cases h1 : 1 ≤ n
  · by_cases h2 : n ≤ 4096
    · rw [if_pos ⟨h1, h2⟩]
      have HE : Hid ((n - 1).tdiv 4 = (n - 1) / 4 ∧ (n - 1).tmod 4 = (n - 1) % 4) := ⟨tdiv_nn _ _ (by omega), tmod_nn _ _ (by omega)⟩
      have h3 : ¬ n < 1 := by omega
      have h4 : ¬ 4096 < n := by omega
      go_enter Tryz.func75, Tryz.ntmps75
      go_wp2_with fail
      go_ret3
      exact ⟨by first | rfl | (rw [← HE.out.1, ← HE.out.2]; rfl), rfl⟩
    · rw [if_neg fun h => h2 h.2]
      have h3 : ¬ n < 1 := by omega
      have h4 : 4096 < n := by omega
      clear h1 h2
      go_enter Tryz.func75, Tryz.ntmps75
      go_wp2_with fail
      go_ret3
      exact ⟨rfl, rfl⟩
  · rw [if_neg fun h => h1 h.1]
    have h3 : n < 1 := by omega
    clear h1
    go_enter Tryz.func75, Tryz.ntmps75
    go_wp2_with fail
    go_ret3
    exact ⟨rfl, rfl⟩
end Go.Proofs.YtbcgpiocigjkoaaGreat
