/- Maps with integers as keys and whatever elements, told by a list: a look-up, a key stored, new or not. -/
import Derived.Test.YtppagdmlfgialaaGreatDoorHSegsP
import Derived.Deep.DeepCutAuto
import Derived.Deep.Cut
import Derived.Handy
import Derived.Test.YtppagdmlfgialaaGreatDoorHDigRow
import Derived.Test.YtppagdmlfgialaaGreatDoorProg
import Derived.Test.YtppagdmlfgialaaGreatDoorHNdKit
import Derived.WalkKit
import Derived.Laws.MakeOwn
import Derived.Maps.AppendAt
import Derived.Test.YtppagdmlfgialaaGreatDoorHBlkGrp
import Derived.Test.YtppagdmlfgialaaGreatDoorHDkKeep
import Derived.Lib.SlBytesConst
import Derived.ArgAppend

namespace Go.Proofs.YtppagdmlfgialaaGreatDoor
open Go Go.RowKit
set_option linter.unusedSimpArgs false
set_option linter.unusedVariables false

theorem Turns.laid {S : Nat → Prop} {w w' : World} (h : Turns S w w') {b : Nat} (hb : w.heap.size ≤ b) (cs : Array Value) : Turns S w (w'.setRow b cs) := by
  have k : Below w.heap.size w' (w'.setRow b cs) := below_setRow (Below.refl _ _) hb cs
  exact ⟨k.os.trans h.os, k.tape.trans h.tape, k.output.trans h.output, Nat.le_trans h.size k.size, fun x hx hf => (k.block x hx).trans (h.block x hx hf)⟩
theorem Turns.alloc {S : Nat → Prop} {w w' : World} (h : Turns S w w') (o : Obj) : Turns S w (w'.alloc o) := by
  have k : Below w'.heap.size w' (w'.alloc o) := below_new1 _ _
  exact ⟨k.os.trans h.os, k.tape.trans h.tape, k.output.trans h.output, Nat.le_trans h.size k.size, fun x hx hf => (k.block x (Nat.lt_of_lt_of_le hx h.size)).trans (h.block x hx hf)⟩
section
variable {c m b : Nat} {dp lp o n : Option Addr} {room h r bd cn : Int}
end
end Go.Proofs.YtppagdmlfgialaaGreatDoor

namespace Go.Proofs.YtppagdmlfgialaaGreatDoor
open Go Go.RowKit
set_option linter.unusedSimpArgs false
set_option linter.unusedVariables false

/-- an entry: its reference, its block in the memory, its bytes -/
structure En where
  k : Rf
  b : Nat
  f : Nat → Nat
def enA (e : En) : Addr := ⟨e.b, 0, none⟩
def prevOf (L : List En) (i : Nat) : Option Addr := if i = 0 then none else (L[i - 1]?).map enA
def nextOf (L : List En) (i : Nat) : Option Addr := (L[i + 1]?).map enA
def headOf (L : List En) : Option Addr := (L[0]?).map enA
def lastOf (L : List En) : Option Addr := prevOf L L.length
section
variable {c b : Nat} {m : Nat} {dp lp o n : Option Addr} {room h r bd cn : Int} {R : Rf} {f : Nat → Nat}
end
end Go.Proofs.YtppagdmlfgialaaGreatDoor

namespace Go.Proofs.YtppagdmlfgialaaGreatDoor
open Go Go.RowKit
set_option linter.unusedSimpArgs false
set_option linter.unusedVariables false

/-- the chain of entries in the memory -/
structure ChainAt (w : World) (c m : Nat) (dp lp : Option Addr) (room h r bd cn : Int) (L : List En) : Prop where
  blk : Blk w c 151 (caC dp lp room m (headOf L) (lastOf L) h r bd cn)
  ents : ∀ i e, L[i]? = some e → Blk w e.b 412 (enC e.k e.f (prevOf L i) (nextOf L i))
  nd : ∀ (i j : Nat) (e e' : En), L[i]? = some e → L[j]? = some e' → e.b = e'.b → i = j
/-- its blocks -/
def chfoot (c : Nat) (L : List En) (x : Nat) : Prop := x = c ∨ ∃ e ∈ L, x = e.b
section
variable {w w' : World} {c m : Nat} {dp lp : Option Addr} {room h r bd cn : Int} {L : List En} {i : Nat} {e : En}
theorem ChainAt.below (H : ChainAt w c m dp lp room h r bd cn L) (hb : Below w.heap.size w w') : ChainAt w' c m dp lp room h r bd cn L := ⟨H.blk.below hb H.blk.lt, fun i e he => (H.ents i e he).below hb (H.ents i e he).lt, H.nd⟩
theorem ChainAt.kept (H : ChainAt w c m dp lp room h r bd cn L) (hk : ∀ x, chfoot c L x → w'.heap[x]? = w.heap[x]?) : ChainAt w' c m dp lp room h r bd cn L := ⟨(hk c (.inl rfl)).trans H.blk, fun i e he => (hk e.b (.inr ⟨e, List.mem_of_getElem? he, rfl⟩)).trans (H.ents i e he), H.nd⟩
theorem ChainAt.lt (H : ChainAt w c m dp lp room h r bd cn L) (x : Nat) (hx : chfoot c L x) : x < w.heap.size := by
  rcases hx with rfl | ⟨e, he, rfl⟩
  · exact H.blk.lt
  · obtain ⟨i, hi⟩ := List.mem_iff_getElem?.1 he
    exact (H.ents i e hi).lt
end
end Go.Proofs.YtppagdmlfgialaaGreatDoor

namespace Go.Proofs.YtppagdmlfgialaaGreatDoor
open Go Go.RowKit
set_option linter.unusedSimpArgs false
set_option linter.unusedVariables false

/-- the map of the entries -/
def MapFor (w : World) (m : Nat) (L : List En) : Prop := ∃ es : List (Rf × Nat), MapIs rfV ptV w m es ∧ es.length = L.length ∧ (es.map Prod.fst).Nodup ∧ ∀ k b, findIn k es = some b ↔ ∃ e ∈ L, e.k = k ∧ e.b = b
/-- a cache's entries in the memory -/
structure CaAt (w : World) (c m : Nat) (dp lp : Option Addr) (room h r bd cn : Int) (L : List En) : Prop where
  ch : ChainAt w c m dp lp room h r bd cn L
  mp : MapFor w m L
/-- its blocks -/
def cafo (c m : Nat) (L : List En) (x : Nat) : Prop := chfoot c L x ∨ x = m
section
variable {w w' : World} {c m : Nat} {dp lp : Option Addr} {room h r bd cn : Int} {L : List En} {i : Nat} {e : En} {k : Rf}
theorem MapFor.of (H : MapFor w m L) (hk : w'.heap[m]? = w.heap[m]?) : MapFor w' m L := by
  obtain ⟨es, h1, h2⟩ := H
  exact ⟨es, h1.of hk, h2⟩
theorem MapFor.lt (H : MapFor w m L) : m < w.heap.size := by
  obtain ⟨es, h1, h2⟩ := H
  exact h1.lt
theorem MapFor.ne (H : MapFor w m L) {b t : Nat} {cs : Array Value} (hb : Blk w b t cs) : m ≠ b := by
  obtain ⟨es, h1, h2⟩ := H
  exact h1.ne hb
theorem MapFor.same (H : MapFor w m L) {L' : List En} (hl : L'.length = L.length) (he : ∀ x, x ∈ L' ↔ x ∈ L) : MapFor w m L' := by
  obtain ⟨es, h1, h2, h3, h4⟩ := H
  exact ⟨es, h1, h2.trans hl.symm, h3, fun k b => (h4 k b).trans ⟨fun ⟨e, a, b⟩ => ⟨e, (he e).2 a, b⟩, fun ⟨e, a, b⟩ => ⟨e, (he e).1 a, b⟩⟩⟩
theorem CaAt.below (H : CaAt w c m dp lp room h r bd cn L) (hb : Below w.heap.size w w') : CaAt w' c m dp lp room h r bd cn L := ⟨H.ch.below hb, H.mp.of (hb.block m H.mp.lt)⟩
theorem CaAt.drew (H : CaAt w c m dp lp room h r bd cn L) : CaAt w.drew c m dp lp room h r bd cn L := H.below (Below.refl _ _).drew
theorem CaAt.kept (H : CaAt w c m dp lp room h r bd cn L) (hk : ∀ x, cafo c m L x → w'.heap[x]? = w.heap[x]?) : CaAt w' c m dp lp room h r bd cn L := ⟨H.ch.kept fun x hx => hk x (.inl hx), H.mp.of (hk m (.inr rfl))⟩
theorem CaAt.lt (H : CaAt w c m dp lp room h r bd cn L) (x : Nat) (hx : cafo c m L x) : x < w.heap.size := by
  rcases hx with hx | rfl
  · exact H.ch.lt x hx
  · exact H.mp.lt
theorem CaAt.setRow (H : CaAt w c m dp lp room h r bd cn L) {b : Nat} (hb : ¬ cafo c m L b) (cs : Array Value) : CaAt (w.setRow b cs) c m dp lp room h r bd cn L := H.kept fun x hx => setRow_other w b x cs fun e => hb (e ▸ hx)
theorem CaAt.one (H : CaAt w c m dp lp room h r bd cn L) {e e' : En} (he : e ∈ L) (he' : e' ∈ L) (hk : e.k = e'.k) : e.b = e'.b := by
  obtain ⟨es, h1, h2, h3, h4⟩ := H.mp
  have h5 := (h4 e.k e.b).2 ⟨e, he, rfl, rfl⟩
  have h6 := (h4 e.k e'.b).2 ⟨e', he', hk.symm, rfl⟩
  rw [h5] at h6
  injection h6
theorem mem_erased {x : En} (hx : x ∈ L.eraseIdx i) : x ∈ L := by
  obtain ⟨j, _, hj⟩ := List.mem_eraseIdx_iff_getElem?.1 hx
  exact List.mem_of_getElem? hj
theorem ChainAt.other (H : ChainAt w c m dp lp room h r bd cn L) (hi : L[i]? = some e) (j : Nat) (e' : En) (hj : (L.eraseIdx i)[j]? = some e') : e'.b ≠ e.b := fun hb => by
  rw [List.getElem?_eraseIdx] at hj
  split at hj
  · have := H.nd _ _ _ _ hj hi hb
    omega
  · have := H.nd _ _ _ _ hj hi hb
    omega
end
end Go.Proofs.YtppagdmlfgialaaGreatDoor

namespace Go.Proofs.YtppagdmlfgialaaGreatDoor
open Go Go.RowKit
set_option linter.unusedSimpArgs false
set_option linter.unusedVariables false

/-- the entries but the one of a reference, if it is there -/
def PutL (L : List En) (k : Rf) (L1 : List En) : Prop := (∃ i e, L[i]? = some e ∧ e.k = k ∧ L1 = L.eraseIdx i) ∨ ((∀ e ∈ L, e.k ≠ k) ∧ L1 = L)
theorem PutL.sub {L L1 : List En} {k : Rf} (h : PutL L k L1) {x : En} (hx : x ∈ L1) : x ∈ L := by
  rcases h with ⟨i, e, _, _, rfl⟩ | ⟨_, rfl⟩
  · exact mem_erased hx
  · exact hx
theorem PutL.foot {L L1 : List En} {k : Rf} (h : PutL L k L1) {c m x : Nat} (hx : cafo c m L1 x) : cafo c m L x := by
  rcases hx with (hx | ⟨e, he, hx⟩) | hx
  · exact .inl (.inl hx)
  · exact .inl (.inr ⟨e, h.sub he, hx⟩)
  · exact .inr hx
section
variable {w w' : World} {c m : Nat} {dp lp : Option Addr} {room h r bd cn : Int} {L L1 : List En} {i : Nat} {e : En} {k : Rf}
theorem PutL.none (H : CaAt w c m dp lp room h r bd cn L) (hp : PutL L k L1) : ∀ e ∈ L1, e.k ≠ k := by
  rcases hp with ⟨i, e, hi, rfl, rfl⟩ | ⟨hn, rfl⟩
  · intro x hx hk
    obtain ⟨j, hj, hj2⟩ := List.mem_eraseIdx_iff_getElem?.1 hx
    exact hj (H.ch.nd _ _ _ _ hj2 hi (H.one (List.mem_of_getElem? hj2) (List.mem_of_getElem? hi) hk))
  · exact hn
/-- how many keys a map has -/
def mapSz (w : World) (m : Nat) : Nat := match w.heap[m]? with
  | some (.map es _) => es.size
  | _ => 0
theorem MapFor.sz (H : MapFor w m L) : mapSz w m = L.length := by
  obtain ⟨es, ⟨xs, cl, hg, he⟩, hl, _⟩ := H
  unfold mapSz
  rw [hg]
  have := congrArg List.length he
  simp at this
  show xs.size = _
  omega
theorem MapFor.len (H : MapFor w m L) (ty : TypeId) : (Builtin.len_ #[143] ty #[.map (some m)]).run Tryz.prog w = .ok (.int .i64 (L.length : Int)) w := by
  obtain ⟨es, h1, h2, _⟩ := H
  have := map_len h1 ty
  rw [h2] at this
  exact this
end
section
variable {w w' : World} {c m room : Nat} {dp lp : Option Addr} {h r bd cn : Int} {L L1 : List En} {i : Nat} {e : En} {k : Rf}
end
end Go.Proofs.YtppagdmlfgialaaGreatDoor

namespace Go.Proofs.YtppagdmlfgialaaGreatDoor
open Go Go.RowKit
set_option linter.unusedSimpArgs false
set_option linter.unusedVariables false

theorem kyields_load_at {P : Program} {ops : Array Oper} {S : World → Prop} {op : Oper} {a : Act} (hw : Region.wanted op (yielded ops a.tmps) = true) (ty : TypeId) (x : Operand) (ho : op.op = .load ty x)
    (b o n : Nat) (f : Nat → Value) (hx : a.eval x = .pointer (some ⟨b, o, none⟩)) (d : TypeDesc) (hS : ∀ w, S w → w.rangeAt b o ((List.range n).map f))
    (hu : P.underlying ty = some d) (hd : d.isRow = true) (hi : (P.info? ty).map (·.size) = some n) : YieldsIf P ops S op (.agg (va n f)) a :=
  yieldsIf_load_mid hw ty x ho b o hx _ d hS hu hd (hi.trans (by simp))
section
variable {c m B g N kk lg : Nat} {F : Nat → Nat} {q : QD} {lp o n : Option Addr} {room h r bd cn : Int}
end
end Go.Proofs.YtppagdmlfgialaaGreatDoor

namespace Go.Proofs.YtppagdmlfgialaaGreatDoor
open Go Go.RowKit
set_option linter.unusedSimpArgs false
set_option linter.unusedVariables false

section
variable {w w' : World} {c m B g N kk lg room : Nat} {F : Nat → Nat} {q q' : QD} {dp lp : Option Addr} {h r bd cn h2 r2 bd2 cn2 : Int} {L L1 : List En} {i : Nat} {e : En} {k : Rf}
/-- a disk and a cache on it -/
structure CD (w : World) (B g N : Nat) (F : Nat → Nat) (kk lg : Nat) (q : QD) (c m room : Nat) (h r bd cn : Int) (L : List En) : Prop where
  d : DiskQ w B g N F kk lg q
  ca : CaAt w c m (some ⟨g, 0, none⟩) none (room : Int) h r bd cn L
  ap : ∀ x, cafo c m L x → ¬ foot g N q x
  lo : ∀ x, cafo c m L x → B ≤ x
/-- its blocks -/
def cdfo (g N : Nat) (q : QD) (c m : Nat) (L : List En) (x : Nat) : Prop := foot g N q x ∨ cafo c m L x
theorem CD.below (H : CD w B g N F kk lg q c m room h r bd cn L) (hb : Below w.heap.size w w') : CD w' B g N F kk lg q c m room h r bd cn L := ⟨H.d.below hb, H.ca.below hb, H.ap, H.lo⟩
theorem CD.kept (H : CD w B g N F kk lg q c m room h r bd cn L) (hk : ∀ x, cdfo g N q c m L x → w'.heap[x]? = w.heap[x]?) : CD w' B g N F kk lg q c m room h r bd cn L := ⟨H.d.kept fun x hx => hk x (.inl hx), H.ca.kept fun x hx => hk x (.inr hx), H.ap, H.lo⟩
theorem CD.lt (H : CD w B g N F kk lg q c m room h r bd cn L) (x : Nat) (hx : cdfo g N q c m L x) : B ≤ x ∧ x < w.heap.size := by
  rcases hx with hx | hx
  · exact H.d.foots x hx
  · exact ⟨H.lo x hx, H.ca.lt x hx⟩
end
section
variable {c m B g N kk lg room : Nat} {F : Nat → Nat} {q : QD} {dp lp : Option Addr} {h r bd cn : Int} {L L1 : List En} {i : Nat} {e : En} {k : Rf}
end
end Go.Proofs.YtppagdmlfgialaaGreatDoor

namespace Go.Proofs.YtppagdmlfgialaaGreatDoor
open Go Go.RowKit
set_option linter.unusedSimpArgs false
set_option linter.unusedVariables false

/-- a block of the disk -/
def blkAt (F : Nat → Nat) (a : Nat) : Nat → Nat := fun j => F (a * 256 + j)
/-- is what a reference says there? -/
def gotOk (F : Nat → Nat) (N : Nat) (k : Rf) : Prop := k.1 ≠ 0 ∧ k.1 < N ∧ dgB (blkAt F k.1) = k.2
instance (F : Nat → Nat) (N : Nat) (k : Rf) : Decidable (gotOk F N k) := by unfold gotOk; infer_instance
/-- entries that say what the disk says -/
def ValidL (F : Nat → Nat) (N : Nat) (L : List En) : Prop := ∀ e ∈ L, e.k ≠ rf0 ∧ gotOk F N e.k ∧ e.f = blkAt F e.k.1
/-- a disk and a cache, behind i calls at most; U: their blocks -/
structure TD (W : World) (B g N : Nat) (F : Nat → Nat) (c m room i : Nat) (U : Nat → Prop) : Prop where
  ex : ∃ q kk lg h r bd cn L, CD W B g N F kk lg q c m room h r bd cn L ∧ Quiet q kk ∧ kk ≤ i ∧ lg ≤ i ∧ (0 ≤ h ∧ h ≤ (i : Int)) ∧ (0 ≤ r ∧ r ≤ (i : Int)) ∧ (0 ≤ bd ∧ bd ≤ (i : Int)) ∧ ValidL F N L ∧ ∀ x, U x ↔ cdfo g N q c m L x
  nz : 0 < N
  nN : N ≤ 8192
  rm : room ≤ 4096
  hB : B ≤ W.heap.size
section
variable {W W' : World} {B g N c m room i : Nat} {F : Nat → Nat} {U : Nat → Prop}
theorem TD.below (H : TD W B g N F c m room i U) (hb : Below W.heap.size W W') : TD W' B g N F c m room i U := by
  obtain ⟨q, kk, lg, h, r, bd, cn, L, h1, h2⟩ := H.ex
  exact ⟨⟨q, kk, lg, h, r, bd, cn, L, h1.below hb, h2⟩, H.nz, H.nN, H.rm, Nat.le_trans H.hB hb.size⟩
theorem TD.kept (H : TD W B g N F c m room i U) (hs : W.heap.size ≤ W'.heap.size) (hk : ∀ x, U x → W'.heap[x]? = W.heap[x]?) : TD W' B g N F c m room i U := by
  obtain ⟨q, kk, lg, h, r, bd, cn, L, h1, h2, h3, h4, h5, h6, h7, h8, h9⟩ := H.ex
  exact ⟨⟨q, kk, lg, h, r, bd, cn, L, h1.kept fun x hx => hk x ((h9 x).2 hx), h2, h3, h4, h5, h6, h7, h8, h9⟩, H.nz, H.nN, H.rm, Nat.le_trans H.hB hs⟩
theorem TD.lt (H : TD W B g N F c m room i U) (x : Nat) (hx : U x) : B ≤ x ∧ x < W.heap.size := by
  obtain ⟨q, kk, lg, h, r, bd, cn, L, h1, h2, h3, h4, h5, h6, h7, h8, h9⟩ := H.ex
  exact h1.lt x ((h9 x).1 hx)
theorem TD.mono (H : TD W B g N F c m room i U) {j : Nat} (hj : i ≤ j) : TD W B g N F c m room j U := by
  obtain ⟨q, kk, lg, h, r, bd, cn, L, h1, h2, h3, h4, h5, h6, h7, h8, h9⟩ := H.ex
  exact ⟨⟨q, kk, lg, h, r, bd, cn, L, h1, h2, by omega, by omega, by omega, by omega, by omega, h8, h9⟩, H.nz, H.nN, H.rm, H.hB⟩
/-- what a call does to them -/
def TDStep (W W' : World) (B g N : Nat) (F : Nat → Nat) (c m room i : Nat) (U : Nat → Prop) : Prop := ∃ U', TD W' B g N F c m room i U' ∧ Turns U W W' ∧ ∀ x, U' x → U x ∨ W.heap.size ≤ x
theorem TDStep.of_below (H : TD W B g N F c m room i U) (hb : Below W.heap.size W W') : TDStep W W' B g N F c m room i U := ⟨U, H.below hb, .of_below hb, fun _ => .inl⟩
theorem TDStep.trans {W1 W2 W3 : World} {i j : Nat} {U V : Nat → Prop} (ht : Turns U W1 W2) (hv : ∀ x, V x → U x ∨ W1.heap.size ≤ x) (h : TDStep W2 W3 B g N F c m room j V) : TDStep W1 W3 B g N F c m room j U := by
  obtain ⟨V', h1, h2, h3⟩ := h
  refine ⟨V', h1, ht.trans h2 hv, fun x hx => ?_⟩
  rcases h3 x hx with h | h
  · exact hv x h
  · exact .inr (Nat.le_trans ht.size h)
end
end Go.Proofs.YtppagdmlfgialaaGreatDoor

namespace Go.Proofs.YtppagdmlfgialaaGreatDoor
open Go Go.RowKit
set_option linter.unusedSimpArgs false
set_option linter.unusedVariables false

theorem and3 (z : Nat) (hz : z < 9223372036854775808) : bits .and .i64 (z : Int) 3 = ((z % 4 : Nat) : Int) := by
  have h1 : (BitVec.ofInt 64 (z : Int)).toNat = z := by
    rw [BitVec.ofInt_natCast, BitVec.toNat_ofNat]; exact Nat.mod_eq_of_lt (by omega)
  have h2 : (BitVec.ofInt 64 (3 : Int)).toNat = 3 := by decide
  show IntKind.i64.wrap ((BitVec.ofInt 64 (z : Int) &&& BitVec.ofInt 64 (3 : Int)).toNat : Int) = _
  rw [BitVec.toNat_and, h1, h2, Nat.and_two_pow_sub_one_eq_mod z 2, IntKind.wrap_i64]
  omega
theorem pow4_le (h : Nat) (hh : h ≤ 6) : 4 ^ h ≤ 4096 := Nat.pow_le_pow_right (n := 4) (by decide) hh
/-- the least height -/
def hgt (n : Nat) : Nat := if n ≤ 1 then 0 else if n ≤ 4 then 1 else if n ≤ 16 then 2 else if n ≤ 64 then 3 else if n ≤ 256 then 4 else if n ≤ 1024 then 5 else 6
theorem hgt_eq (n k : Nat) (hk : k ≤ 6) (h1 : n ≤ 4 ^ k) (h2 : ∀ j, j < k → 4 ^ j < n) : hgt n = k := by
  unfold hgt
  have g0 := h2 0
  have g1 := h2 1
  have g2 := h2 2
  have g3 := h2 3
  have g4 := h2 4
  have g5 := h2 5
  obtain rfl | rfl | rfl | rfl | rfl | rfl | rfl : k = 0 ∨ k = 1 ∨ k = 2 ∨ k = 3 ∨ k = 4 ∨ k = 5 ∨ k = 6 := by omega
  all_goals simp only [Nat.reducePow, Nat.lt_irrefl, Nat.zero_lt_succ, true_implies, Nat.reduceLT] at g0 g1 g2 g3 g4 g5 h1
  all_goals (repeat' split) <;> omega
theorem mayBe_yes (h : Nat) (hh : h ≤ 6) (w : World) : Calls Tryz.prog 193 #[.int .i64 (h : Int)] w fun e w' => e = .returned (.bool true) ∧ w = w' := by
  have hd : decide ((h : Int) ≤ 6) = true := decide_eq_true (by omega)
  go_enter Tryz.func193, Tryz.ntmps193
  go_wp2
  go_ret
  exact ⟨rfl, rfl⟩
theorem mayBe_no (h : Int) (hh : h < 0 ∨ 6 < h) (w : World) : Calls Tryz.prog 193 #[.int .i64 h] w fun e w' => e = .returned (.bool false) ∧ w = w' := by
  go_enter Tryz.func193, Tryz.ntmps193
  rcases hh with hh | hh
  · go_wp2
    go_ret
    exact ⟨rfl, rfl⟩
  · have h0 : 0 ≤ h := by omega
    have hd : decide (h ≤ 6) = false := decide_eq_false (by omega)
    go_wp2
    go_ret
    exact ⟨rfl, rfl⟩
theorem wrap_pow4 (p h : Nat) (hp : p * 4 ^ h < 9223372036854775808) : wrap64 ((p : Int) * 2 ^ (2 * h)) = ((p * 4 ^ h : Nat) : Int) := by
  have e : ((p : Int) * 2 ^ (2 * h)) = ((p * 4 ^ h : Nat) : Int) := by
    rw [show (4 : Nat) ^ h = 2 ^ (2 * h) by rw [Nat.pow_mul]]
    push_cast
    rfl
  rw [e, ← IntWalk.i64_left, IntKind.wrap_i64]
  omega
theorem firstLeaf_any (h p c : Nat) (hh : h ≤ 6) (hc : p * 4 ^ h = c) (hp : p < 1099511627776) (w : World) : Calls Tryz.prog 194 #[.int .i64 (h : Int), .int .i64 (p : Int)] w fun e w' => e = .returned (.int .i64 (c : Int)) ∧ w = w' := by
  have hq : p * 4 ^ h < 9223372036854775808 := by
    have h1 := pow4_le h hh
    have h2 := Nat.mul_le_mul (Nat.le_of_lt hp) h1
    omega
  have h1 : (h : Int) ≤ 6 := by omega
  go_enter Tryz.func194, Tryz.ntmps194
  go_wp2
  go_ret
  refine ⟨congrArg (fun x => Ending.returned (.int .i64 x)) ?_, rfl⟩
  rw [← hc]
  exact wrap_pow4 p h hq
theorem capacity_ok (h c : Nat) (hh : h ≤ 6) (hc : 4 ^ h = c) (w : World) : Calls Tryz.prog 128 #[.int .i64 (h : Int)] w fun e w' => e = .returned (.tuple #[.int .i64 (c : Int), .int .i64 0]) ∧ w = w' := by
  go_enter Tryz.func128, Tryz.ntmps128
  go_wp2_with fail
  refine (mayBe_yes h hh w).mono ?_
  rintro e _ ⟨rfl, rfl⟩
  go_wp2_with fail
  refine (firstLeaf_any h 1 c hh (by omega) (by decide) w).mono ?_
  rintro e _ ⟨rfl, rfl⟩
  go_wp2_with fail
  go_ret2
  exact ⟨rfl, rfl⟩
theorem height_ok (n v : Nat) (hn : n ≤ 4096) (hv : hgt n = v) (w : World) : Calls Tryz.prog 163 #[.int .i64 (n : Int)] w fun e w' => e = .returned (.tuple #[.int .i64 (v : Int), .int .i64 0]) ∧ w = w' := by
  go_enter Tryz.func163, Tryz.ntmps163
  go_wp2_with fail
  go_loopw [9] (fun i wr => ∃ k : Nat, k ≤ 7 ∧ i = .int .i64 (k : Int) ∧ (∀ j, j < k → 4 ^ j < n) ∧ w = wr) (fun i _ => 7 - (intOf i).toNat)
  case atStart => exact ⟨0, by omega, rfl, fun j hj => by omega, by trivial⟩
  case round =>
    obtain ⟨k, hk, rfl, hl, rfl⟩ := hrel
    by_cases hlt : k < 7
    · obtain ⟨c, hc⟩ : ∃ c, 4 ^ k = c := ⟨_, rfl⟩
      go_wp2_with fail
      refine (capacity_ok k c (by omega) hc w).mono ?_
      rintro e _ ⟨rfl, rfl⟩
      by_cases hle : n ≤ c
      · have h4 : c ≤ 4096 := hc ▸ pow4_le k (by omega)
        go_wp2_with fail
        go_ret2
        have hkv : k = v := (hgt_eq n k (by omega) (by omega) hl).symm.trans hv
        subst hkv
        exact ⟨rfl, rfl⟩
      · go_wp2_with fail
        go_roundw
        case rel => exact ⟨k + 1, hlt, by congr 1, fun j hj => by
          rcases Nat.lt_or_ge j k with h | h
          · exact hl j h
          · rw [show j = k by omega, hc]
            omega, by trivial⟩
        case measure =>
          simp only [intOf]
          omega
    · have h6 := hl 6 (by omega)
      omega
theorem refCap_any (h c : Nat) (hh : h ≤ 6) (hc : 4 ^ h = c) (w : World) : Calls Tryz.prog 93 #[.int .i64 (h : Int)] w fun e w' => e = .returned (.int .i64 (c : Int)) ∧ w = w' := by
  go_enter Tryz.func93, Tryz.ntmps93
  go_wp2_with fail
  go_loopw [3, 4] (fun n i wr => ∃ k b : Nat, k ≤ h ∧ i = .int .i64 (k : Int) ∧ n = .int .i64 (b : Int) ∧ 4 ^ k = b ∧ w = wr) (fun _ i _ => h - (intOf i).toNat)
  case atStart => exact ⟨0, 1, by omega, rfl, rfl, rfl, rfl⟩
  case round =>
    obtain ⟨k, b, hk, rfl, rfl, hb, rfl⟩ := hrel
    have h4 : b ≤ 4096 := hb ▸ pow4_le k (by omega)
    by_cases hlt : k < h
    · go_wp2_with fail
      go_roundw
      case rel => exact ⟨k + 1, b * 4, hlt, by congr 1, by congr 1, by rw [Nat.pow_succ, hb], by trivial⟩
      case measure =>
        simp only [intOf]
        omega
    · have hkh : k = h := by omega
      subst hkh
      have hbc : b = c := by omega
      subst hbc
      go_wp2_with fail
      go_ret
      exact ⟨rfl, rfl⟩
theorem refHeight_any (n v : Nat) (hn : n ≤ 4096) (hv : hgt n = v) (w : World) : Calls Tryz.prog 46 #[.int .i64 (n : Int)] w fun e w' => e = .returned (.int .i64 (v : Int)) ∧ w = w' := by
  go_enter Tryz.func46, Tryz.ntmps46
  go_wp2_with fail
  go_loopw [3] (fun i wr => ∃ k : Nat, k ≤ 6 ∧ i = .int .i64 (k : Int) ∧ (∀ j, j < k → 4 ^ j < n) ∧ w = wr) (fun i _ => 7 - (intOf i).toNat)
  case atStart => exact ⟨0, by omega, rfl, fun j hj => by omega, by trivial⟩
  case round =>
    obtain ⟨k, hk, rfl, hl, rfl⟩ := hrel
    obtain ⟨c, hc⟩ : ∃ c, 4 ^ k = c := ⟨_, rfl⟩
    go_wp2_with fail
    refine (refCap_any k c (by omega) hc w).mono ?_
    rintro e _ ⟨rfl, rfl⟩
    by_cases hle : n ≤ c
    · go_wp2_with fail
      go_ret
      have hkv : k = v := (hgt_eq n k (by omega) (by omega) hl).symm.trans hv
      subst hkv
      exact ⟨rfl, rfl⟩
    · have hk5 : k < 6 := by
        rcases Nat.lt_or_ge k 6 with h | h
        · exact h
        · rw [show k = 6 by omega] at hc
          omega
      go_wp2_with fail
      go_roundw
      case rel => exact ⟨k + 1, hk5, by congr 1, fun j hj => by
        rcases Nat.lt_or_ge j k with h | h
        · exact hl j h
        · rw [show j = k by omega, hc]
          omega, by trivial⟩
      case measure =>
        simp only [intOf]
        omega
/-- the place at step i of a way -/
def wayN (h p : Nat) : Nat → Nat := fun i => p / 4 ^ (h - 1 - i) % 4
theorem tinfoInt : (Tryz.prog.info? 3).map (fun i => (i.zero, i.size, i.bytes)) = some (some (.int .i64 0), 1, 8) := by kernel_rfl
theorem tinfo_parts {t : TypeId} {z : Value} {n b : Nat} (h : (Tryz.prog.info? t).map (fun i => (i.zero, i.size, i.bytes)) = some (some z, n, b)) : ∃ i, Tryz.prog.info? t = some i ∧ i.zero = some z ∧ i.size = n ∧ i.bytes = b := by
  cases hq : Tryz.prog.info? t with
  | none => simp [hq] at h
  | some i =>
    simp [hq] at h
    exact ⟨i, rfl, h.1, h.2.1, h.2.2⟩
theorem tmade_one (v : Value) (n : Nat) : madeCells #[v] n = va n fun _ => v := by
  refine va_ext (size_madeCells _ _) fun i hi => ?_
  unfold madeCells
  simp [hi, Nat.mod_one]
theorem tmake_ints (n : Nat) (hn : n ≤ 8192) (w : World) : (Instr.makeSlice 135 (.int .i64 (n : Int)) (.int .i64 (n : Int))).run Tryz.prog w = .ok (.slice (some ⟨w.heap.size, 0, none⟩) n n) (w.alloc (.cells (va n (iv .i64 fun _ => 0)) 3)) := by
  obtain ⟨i0, hi, hz0, hz1, hz2⟩ := tinfo_parts tinfoInt
  have := run_make (P := Tryz.prog) w 135 3 i0 (.int .i64 0) Tryz.underlying135 hi hz0 .i64 .i64 (n : Int) (n : Int) (by omega) (Int.le_refl _) (by rw [hz2]; omega) (by omega)
  rw [hz1] at this
  simp only [Int.toNat_natCast, Value.cells, tmade_one, Nat.mul_one] at this
  exact this
theorem shr_way (p k : Nat) : (p : Int) / 2 ^ (2 * k) = ((p / 4 ^ k : Nat) : Int) := by
  rw [show (4 : Nat) ^ k = 2 ^ (2 * k) by rw [Nat.pow_mul]]
  push_cast
  rfl
set_option maxHeartbeats 1000000 in
theorem way_ok (h p : Nat) (hh : h ≤ 6) (hp : p < 4 ^ h) (w : World) : Calls Tryz.prog 268 #[.int .i64 (h : Int), .int .i64 (p : Int)] w fun e w' => e = .returned (.tuple #[.slice (some ⟨w.heap.size, 0, none⟩) h h, .int .i64 0]) ∧ Blk w' w.heap.size 3 (va h (iv .i64 (wayN h p))) ∧ Below w.heap.size w w' := by
  obtain ⟨c, hc⟩ : ∃ c, 4 ^ h = c := ⟨_, rfl⟩
  have hc4 : c ≤ 4096 := hc ▸ pow4_le h hh
  rw [hc] at hp
  have hmk := tmake_ints h (by omega)
  have h6 : (h : Int) ≤ 6 := by omega
  have hd1 : decide ((p : Int) < 0) = false := decide_eq_false (by omega)
  have hd2 : decide (c ≤ p) = false := decide_eq_false (by omega)
  have HC : Hid (4 ^ h = c) := hc
  clear hc
  go_enter Tryz.func268, Tryz.ntmps268
  go_wp2_with fail
  refine (capacity_ok h c hh HC.out w).mono ?_
  rintro e _ ⟨rfl, rfl⟩
  go_wp2_with fail
  have b0 := Blk.new w 3 (va h (iv .i64 fun _ => 0))
  have hb0 : Below w.heap.size w (w.alloc (.cells (va h (iv .i64 fun _ => 0)) 3)) := (Below.refl _ _).alloc (Nat.le_refl _) _
  generalize (w.alloc (.cells (va h (iv .i64 fun _ => 0)) 3)) = w1 at *
  go_loopw [29] (fun i wr => ∃ k : Nat, k ≤ h ∧ i = .int .i64 (k : Int) ∧ Blk wr w.heap.size 3 (va h (iv .i64 (fupN k (wayN h p) fun _ => 0))) ∧ Below w.heap.size w wr) (fun i _ => h - (intOf i).toNat)
  case atStart => exact ⟨0, Nat.zero_le _, rfl, by rw [fup_zero]; exact b0, hb0⟩
  case round =>
    clear b0 hb0
    obtain ⟨k, hk, rfl, bk, hb⟩ := hrel
    by_cases hlt : k < h
    · have hfz := bk.frozen k
      have hcv := bk.cv hlt
      obtain ⟨l, hl⟩ : ∃ l : Nat, l = h - 1 - k := ⟨_, rfl⟩
      have hl1 : (h : Int) - 1 - (k : Int) = (l : Int) := by omega
      have hl6 : (l : Int) ≤ 6 := by omega
      have hv : bits .and .i64 ((p : Int) / 2 ^ (2 * (h - 1 - k))) 3 = ((wayN h p k : Nat) : Int) := by
        rw [shr_way, and3 _ (Nat.lt_of_le_of_lt (Nat.div_le_self _ _) (by omega))]
        rfl
      have bk1 := bk.put k (.int .i64 (wayN h p k : Int))
      rw [va_set, fup_step] at bk1
      go_wp2_with fail
      refine ⟨⟨k + 1, hlt, rfl, bk1, hb.setCell (p := ⟨w.heap.size, k, none⟩) (Nat.le_refl _) _⟩, ?_⟩
      simp only [intOf]
      omega
    · have hkh : k = h := by omega
      subst hkh
      go_wp2_with fail
      go_ret2
      refine ⟨rfl, ?_, hb⟩
      rw [fup_all _ _ _ _ _ (Nat.le_refl _)] at bk
      exact bk
end Go.Proofs.YtppagdmlfgialaaGreatDoor

namespace Go.Proofs.YtppagdmlfgialaaGreatDoor
open Go Go.RowKit
set_option linter.unusedSimpArgs false
set_option linter.unusedVariables false

/-- a node's block, byte by byte -/
def nodeB (l : Nat) (K : Nat → Rf) : Nat → Nat := fun j => if j < 8 then (if j = 0 then 110 else if j = 1 then 111 else if j = 2 then 100 else if j = 3 then 101 else if j = 4 then l else 0) else if j < 152 then encR (K ((j - 8) / 36)) ((j - 8) % 36) else 0
/-- what Block answers -/
def ndOk (l : Int) (K : Nat → Rf) : Bool := decide (1 ≤ l) && decide (l ≤ 6) && (List.range 4).all fun i => rOk (K i)
end Go.Proofs.YtppagdmlfgialaaGreatDoor

namespace Go.Proofs.YtppagdmlfgialaaGreatDoor
open Go Go.RowKit
set_option linter.unusedSimpArgs false
set_option linter.unusedVariables false

/-- the references that stand in a block; those that are right -/
def rawK (f : Nat → Nat) : Nat → Rf := fun i => decR (strN f 256) (8 + 36 * i)
def decK (f : Nat → Nat) : Nat → Rf := fun i => if rOk (rawK f i) then rawK f i else rf0
/-- is a block just a node's? -/
def rdOk (f : Nat → Nat) : Bool := ndOk ((f 4 : Nat) : Int) (decK f) && decide (bkSame (nodeB (f 4) (decK f)) f)
end Go.Proofs.YtppagdmlfgialaaGreatDoor

namespace Go.Proofs.YtppagdmlfgialaaGreatDoor
open Go Go.RowKit
set_option linter.unusedSimpArgs false
set_option linter.unusedVariables false

theorem built_refC (a : Nat) (d : Vector Nat 32) : Tryz.prog.built 41 [(0, .int .u32 (a : Int)), (1, .agg (va 32 (iv .u8 (dF d))))] = some (rfC (a, d)) := built_refD a d
end Go.Proofs.YtppagdmlfgialaaGreatDoor

namespace Go.Proofs.YtppagdmlfgialaaGreatDoor
open Go Go.RowKit
set_option linter.unusedSimpArgs false
set_option linter.unusedVariables false

theorem le4_dig (n : Nat) (h : n < 4294967296) : le4 (dig n 0) (dig n 1) (dig n 2) (dig n 3) = n := by
  unfold le4 dig
  simp
  omega
/-- what Encode lays, Decode takes -/
theorem decR_of (s : ByteArray) (a : Nat) (r : Rf) (hr : r.1 < 4294967296) (h : ∀ j, j < 36 → tbyte s (a + j) = encR r j) : decR s a = r := by
  obtain ⟨n, d⟩ := r
  unfold decR at4
  have e : ∀ j, j < 4 → tbyte s (a + j) = dig n j := fun j hj => by
    rw [h j (by omega)]
    unfold encR
    rw [if_pos hj]
  have e0 : tbyte s a = dig n 0 := e 0 (by decide)
  rw [e0, e 1 (by decide), e 2 (by decide), e 3 (by decide), le4_dig n hr]
  have e2 : (sumD fun i => tbyte s (a + 4 + i)) = d := dF_inj fun i hi => by
    rw [dF_sumD _ i hi]
    have := h (4 + i) (by omega)
    rw [show a + (4 + i) = a + 4 + i by omega] at this
    rw [this]
    unfold encR
    rw [if_neg (by omega), show 4 + i - 4 = i by omega]
  rw [e2]
end Go.Proofs.YtppagdmlfgialaaGreatDoor

namespace Go.Proofs.YtppagdmlfgialaaGreatDoor
open Go Go.RowKit
set_option linter.unusedSimpArgs false
set_option linter.unusedVariables false

/-- a tree's cells -/
def trF (h : Int) (R : Rf) : Nat → Value := fun i => if i = 0 then .int .i64 h else rfF R.1 R.2 (i - 1)
def trC (h : Int) (R : Rf) : Array Value := va 34 (trF h R)
/-- a position's cells -/
def poF (l p : Int) (R : Rf) : Nat → Value := fun i => if i = 0 then .int .i64 l else if i = 1 then .int .i64 p else rfF R.1 R.2 (i - 2)
def poC (l p : Int) (R : Rf) : Array Value := va 35 (poF l p R)
theorem trC_size (h : Int) (R : Rf) : (trC h R).size = 34 := va_size _ _
theorem poC_size (l p : Int) (R : Rf) : (poC l p R).size = 35 := va_size _ _
theorem trC_all (h : Int) (R : Rf) : (trC h R).all (·.oneCell') = true := va_one fun i _ => by
  unfold trF
  split
  · rfl
  · exact rfF_one _ _ _
theorem poC_all (l p : Int) (R : Rf) : (poC l p R).all (·.oneCell') = true := va_one fun i _ => by
  unfold poF
  split
  · rfl
  · split
    · rfl
    · exact rfF_one _ _ _
theorem sizeTr : (Tryz.prog.info? 46).map (·.size) = some 34 := by kernel_rfl
theorem sizePo : (Tryz.prog.info? 353).map (·.size) = some 35 := by kernel_rfl
theorem tsizeRef : (Tryz.prog.info? 41).map (·.size) = some 33 := by kernel_rfl
theorem zero_po (w : World) : (zeroValue 353).run Tryz.prog w = .ok (.agg (poC 0 0 rf0)) w := zero_of (by kernel_rfl) w
theorem built_po2 (l : Int) (R : Rf) : Tryz.prog.built 353 [(0, .int .i64 l), (2, .agg (rfC R))] = some (poC l 0 R) := by kernel_rfl
theorem tr_range {w : World} {b t : Nat} {h : Int} {R : Rf} (H : Blk w b t (trC h R)) : w.rangeAt b 1 ((List.range 33).map (rfF R.1 R.2)) := by
  have := Blk.range (n := 34) (f := trF h R) H 1 33 (by decide)
  rw [show ((List.range 33).map fun j => trF h R (1 + j)) = (List.range 33).map (rfF R.1 R.2) from List.map_congr_left fun j hj => ?_] at this
  · exact this
  · unfold trF
    rw [if_neg (by omega), show 1 + j - 1 = j by omega]
theorem po_range {w : World} {b t : Nat} {l p : Int} {R : Rf} (H : Blk w b t (poC l p R)) : w.rangeAt b 2 ((List.range 33).map (rfF R.1 R.2)) := by
  have := Blk.range (n := 35) (f := poF l p R) H 2 33 (by decide)
  rw [show ((List.range 33).map fun j => poF l p R (2 + j)) = (List.range 33).map (rfF R.1 R.2) from List.map_congr_left fun j hj => ?_] at this
  · exact this
  · unfold poF
    rw [if_neg (by omega), if_neg (by omega), show 2 + j - 2 = j by omega]
theorem tr_build2 {P : Program} {ops : Array Oper} {rest : List Oper} {o : Oper} {a : Act} {w : World} {Q : Exit → Act → World → Prop} (hg : o.guard = none) (t : TypeId) (i j : Nat) (x y : Operand) (ho : o.op = .build t #[(i, x), (j, y)]) (vx vy : Value) (hx : a.eval x = vx) (hy : a.eval y = vy)
    (cells : Array Value) (hf : P.built t [(i, vx), (j, vy)] = some cells) (h : wpList P ops Q rest (a.put o.dst (.agg cells)) w) : wpList P ops Q (o :: rest) a w := by
  refine wpList_buildTo hg t _ ho o.dst rfl cells ?_ h
  have e : (Array.map (fun (x : Nat × Operand) => match x with | (i, x) => (i, a.eval x)) #[(i, x), (j, y)]).toList = [(i, vx), (j, vy)] := by simp [hx, hy]
  rw [e]
  exact hf
set_option maxRecDepth 100000 in
set_option maxHeartbeats 4000000 in
theorem root_any (h : Int) (R : Rf) (w : World) : Calls Tryz.prog 269 #[.agg (trC h R)] w fun x w' => x = .returned (.agg (poC h 0 R)) ∧ Below w.heap.size w w' := by
  have hz := zero_po
  have hb1 : Below w.heap.size w ((w.alloc (.cells (trC h R) 46)).alloc (.cells (poC 0 0 rf0) 353)) := below_new2 _ _ _
  have t1 : Blk ((w.alloc (.cells (trC h R) 46)).alloc (.cells (poC 0 0 rf0) 353)) w.heap.size 46 (trC h R) := (Blk.new _ _ _).alloc _
  have p1 : Blk ((w.alloc (.cells (trC h R) 46)).alloc (.cells (poC 0 0 rf0) 353)) (w.heap.size + 1) 353 (poC 0 0 rf0) := Blk.new1 _ _ _ _
  have z1 : ((w.alloc (.cells (trC h R) 46)).alloc (.cells (poC 0 0 rf0) 353)).cell? ⟨w.heap.size, 0, none⟩ = some (.int .i64 h) := (t1.cell 0).trans (va_at (trF h R) (by decide))
  have HR : Hid (((w.alloc (.cells (trC h R) 46)).alloc (.cells (poC 0 0 rf0) 353)).rangeAt w.heap.size 1 ((List.range 33).map (rfF R.1 R.2))) := tr_range t1
  have HB : Hid (Tryz.prog.built 353 [(0, .int .i64 h), (2, .agg (rfC R))] = some (poC h 0 R)) := built_po2 h R
  go_enter Tryz.func269, Tryz.ntmps269
  go_wp2_with (first
    | (refine wpList_load_blk (by rfl) 41 _ (by rfl) (w.heap.size) (1) 33 (rfF R.1 R.2) (by rfl) _ (by exact HR.out) Tryz.underlying41 rfl tsizeRef ?_; simp only [Act.put, List.setIfInBounds_toArray, List.set_cons_zero, List.set_cons_succ])
    | (refine tr_build2 (by rfl) 353 0 2 _ _ (by rfl) (.int .i64 h) (.agg (rfC R)) (by rfl) (by rfl) (poC h 0 R) (by exact HB.out) ?_; simp only [Act.put, List.setIfInBounds_toArray, List.set_cons_zero, List.set_cons_succ])
    | (refine wpList_store_row (by rfl) 353 _ _ (by rfl) (w.heap.size + 1) (poC h 0 R) (by rfl) (by rfl) 353 (_) (by exact p1) (sizePo.trans (by rw [poC_size])) (by simp only [poC_size]) (poC_all _ _ _) ?_; simp only [Act.put, List.setIfInBounds_toArray, List.set_cons_zero, List.set_cons_succ])
    | fail)
  try simp only [Exit.inBlock, Exit.then]
  refine bodyPost_ret (results_cell_row Tryz.results269 _ _ (w.heap.size + 1) 353 (poC h 0 R) (0, 0) _ rfl (p1.set _) Tryz.underlying353 rfl (sizePo.trans (by rw [poC_size]))) rfl ?_
  exact ⟨rfl, below_setRow hb1 (by omega) _⟩
end Go.Proofs.YtppagdmlfgialaaGreatDoor

namespace Go.Proofs.YtppagdmlfgialaaGreatDoor
open Go Go.RowKit
set_option linter.unusedSimpArgs false
set_option linter.unusedVariables false

def jK (a : Int) : Value := .int .i64 a
section
variable {β : Type} {P : Program} {V : β → Value}
theorem findNow_intV (a : Int) : ∀ (l : List (Int × β)) (es : List MapEntry) (i : Nat), es.map (fun e => (e.key, e.val)) = l.map (fun p => (jK p.1, V p.2)) →
    (findIn a l = none → Instr.findNow (.int .i64) (jK a) es i = some none) ∧ (∀ v, findIn a l = some v → ∃ j, Instr.findNow (.int .i64) (jK a) es i = some (some (i + j, V v)) ∧ l[j]? = some (a, v) ∧ ∀ m, m < j → ∀ p, l[m]? = some p → p.1 ≠ a)
  | [], es, i, h => by
    have : es = [] := by cases es with
      | nil => rfl
      | cons e es => simp at h
    subst this
    exact ⟨fun _ => by simp [Instr.findNow], fun v hv => by cases hv⟩
  | p :: l, [], i, h => by simp at h
  | p :: l, e :: es, i, h => by
    simp only [List.map_cons, List.cons.injEq, Prod.mk.injEq] at h
    obtain ⟨⟨h1, h2⟩, h3⟩ := h
    obtain ⟨ih1, ih2⟩ := findNow_intV a l es (i + 1) h3
    have hs : Instr.sameNow (.int .i64) (jK a) e.key = some (a == p.1) := by
      rw [h1]
      simp [Instr.sameNow, jK]
    by_cases hq : a = p.1
    · refine ⟨fun hn => ?_, fun v hv => ⟨0, ?_, ?_, fun m hm => by omega⟩⟩
      · unfold findIn at hn
        rw [if_pos hq] at hn
        cases hn
      · unfold findIn at hv
        rw [if_pos hq] at hv
        cases hv
        have hb : (a == p.1) = true := by simpa using hq
        simp [Instr.findNow, hs, hb, h2]
      · unfold findIn at hv
        rw [if_pos hq] at hv
        cases hv
        simp [hq]
    · have hb : (a == p.1) = false := by simpa using hq
      refine ⟨fun hn => ?_, fun v hv => ?_⟩
      · unfold findIn at hn
        rw [if_neg hq] at hn
        simp [Instr.findNow, hs, hb, ih1 hn]
      · unfold findIn at hv
        rw [if_neg hq] at hv
        obtain ⟨j, g1, g2, g3⟩ := ih2 v hv
        refine ⟨j + 1, ?_, by simpa using g2, fun m hm q hq2 => ?_⟩
        · simp [Instr.findNow, hs, hb, g1]
          omega
        · cases m with
          | zero =>
            simp at hq2
            rw [← hq2]
            exact Ne.symm hq
          | succ m => exact g3 m (by omega) q (by simpa using hq2)
theorem find_setV (a b : Int) (v : β) : ∀ (l : List (Int × β)) (j : Nat) (u : β), l[j]? = some (a, u) → (∀ m, m < j → ∀ p, l[m]? = some p → p.1 ≠ a) → findIn b (l.set j (a, v)) = if b = a then some v else findIn b l
  | [], j, u, h, _ => by simp at h
  | p :: l, 0, u, h, _ => by
    simp at h
    subst h
    simp only [List.set_cons_zero, findIn]
    by_cases hb : b = a
    · simp [hb]
    · simp [hb]
  | p :: l, j + 1, u, h, h2 => by
    have hp : p.1 ≠ a := h2 0 (by omega) p (by simp)
    have ih := find_setV a b v l j u (by simpa using h) fun m hm q hq => h2 (m + 1) (by omega) q (by simpa using hq)
    simp only [List.set_cons_succ, findIn, ih]
    by_cases hb : b = p.1
    · rw [if_pos hb, if_pos hb, if_neg (by rw [hb]; exact hp)]
    · rw [if_neg hb, if_neg hb]
theorem chk_intP {kt : TypeId} (hk : P.underlying kt = some (.int .i64)) (e : Bool) (x : Int) (w : World) : (Instr.checkKey e 10000 kt (.int .i64 x)).run P w = .ok () w := by
  rw [show (10000 : Nat) = 9999 + 1 from rfl, Instr.checkKey]
  simp [run_underlying hk]
/-- a look-up -/
theorem intMap_look {mt kt et : TypeId} {z : Value} (hm : P.underlying mt = some (.map kt et)) (hk : P.underlying kt = some (.int .i64)) (hz : ∀ w, (zeroValue et).run P w = .ok z w) {w : World} {r : Nat} {l : List (Int × β)} (h : MapIs jK V w r l) (a : Int) (ok : Bool) :
    (Instr.lookup mt (.map (some r)) (.int .i64 a) ok).run P w = .ok (if ok then .tuple #[((findIn a l).map V).getD z, .bool (findIn a l).isSome] else ((findIn a l).map V).getD z) w := by
  obtain ⟨es, cl, hg, he⟩ := h
  obtain ⟨g1, g2⟩ := findNow_intV a l es.toList 0 he
  have hgo : (getObj r).run P w = .ok (.map es cl) w := by simp [getObj, Sem.run, hg]
  cases hf : findIn a l with
  | none =>
    have hq : (Instr.findKey kt (.int .i64 a) es.toList).run P w = .ok none w := by
      have := g1 hf
      unfold jK at this
      simp [Instr.findKey, run_underlying hk, this]
    cases ok <;> simp [Instr.lookup, run_underlying hm, hgo, chk_intP hk, hq, hz]
  | some v =>
    obtain ⟨j, g3, _⟩ := g2 v hf
    have hq : (Instr.findKey kt (.int .i64 a) es.toList).run P w = .ok (some (0 + j, V v)) w := by
      unfold jK at g3
      simp [Instr.findKey, run_underlying hk, g3]
    cases ok <;> simp [Instr.lookup, run_underlying hm, hgo, chk_intP hk, hq]
end
end Go.Proofs.YtppagdmlfgialaaGreatDoor
