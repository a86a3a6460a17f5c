/- A struct built of one part. -/
import Derived.Test.YtimjggkdpmgpjaaGreatDoorHFiBT
import Derived.Test.YtimjggkdpmgpjaaGreatDoorHBytes
import Derived.Test.YtimjggkdpmgpjaaGreatDoorHDiLay
import Derived.Deep.DeepCutAuto
import Derived.Deep.Cut
import Derived.Handy
import Derived.Test.YtimjggkdpmgpjaaGreatDoorHMath
import Derived.Test.YtimjggkdpmgpjaaGreatDoorHInsMap
import Derived.Test.YtimjggkdpmgpjaaGreatDoorChecked
import Derived.Test.YtimjggkdpmgpjaaGreatDoorHBlkOwn
import Derived.WalkKit
import Derived.Laws.MakeOwn
import Derived.Maps.AppendAt
import Derived.Test.YtimjggkdpmgpjaaGreatDoorHIoChk
import Derived.Test.YtimjggkdpmgpjaaGreatDoorHDkWrite
import Derived.Lib.SlBytesConst
import Derived.ArgAppend
import Derived.Test.YtimjggkdpmgpjaaGreatDoorHCollKit
import Derived.Test.YtimjggkdpmgpjaaGreatDoorHOrders
import Derived.Deep.RegionWith
import Derived.Deep.DrawnRows
import Derived.Deep.RegionLaw
import Derived.Deep.Heap
import Derived.BigQuiet
import Derived.Deep.QuietTactic
import Derived.Great.BuildSlice

namespace Go.Proofs.YtimjggkdpmgpjaaGreatDoor
open Go Go.RowKit Go.Nam
set_option linter.unusedVariables false
set_option linter.unusedSimpArgs false
/-- no two entries of a directory have one name -/
def FUq (F : Fo) : Prop := ∀ d, F.dr d = true → ∀ i j, i < j → j < F.K d → F.S d i ≠ F.S d j
theorem fiN_there {S : Nat → ByteArray} {k i : Nat} (hi : i < k) : fiN S k (S i) < k := by
  obtain ⟨h1, h2, h3⟩ := fiN_is S k (S i)
  apply Classical.byContradiction
  intro q
  exact h2 i (by omega) rfl
theorem fiN_uq {S : Nat → ByteArray} {k i : Nat} (hi : i < k) (h : ∀ a b, a < b → b < k → S a ≠ S b) : fiN S k (S i) = i := by
  have hl := fiN_there (S := S) hi
  obtain ⟨h1, h2, h3⟩ := fiN_is S k (S i)
  have e := h3 hl
  rcases Nat.lt_trichotomy (fiN S k (S i)) i with q | q | q
  · exact absurd e (h _ _ q hi)
  · exact q
  · exact absurd e.symm (h _ _ q hl)
theorem FUq.ad {F : Fo} (h : FUq F) (d : Nat) (j : Int) (s : ByteArray) : FUq (adF F d j s) := by
  unfold adF
  split
  · rename_i he
    have hf : ¬ fiN (F.S d) (F.K d) s < F.K d := fun q => absurd he ((adE_ne F d j s).2 (.inr (.inl q)))
    have hn : ∀ i, i < F.K d → F.S d i ≠ s := by
      obtain ⟨h1, h2, h3⟩ := fiN_is (F.S d) (F.K d) s
      intro i hi
      exact h2 i (by omega)
    intro e hd a b hab hb
    simp only [Fo.more] at hd hb ⊢
    by_cases c : e = d
    · subst c
      rw [if_pos rfl] at hb
      rw [if_pos rfl]
      unfold upS
      by_cases c2 : b = F.K e
      · rw [if_neg (by omega), if_pos c2]
        exact hn a (by omega)
      · rw [if_neg (by omega), if_neg c2]
        exact h e hd a b hab (by omega)
    · rw [if_neg c] at hb
      rw [if_neg c]
      exact h e hd a b hab hb
  · exact h
theorem FUq.dir {F : Fo} (h : FUq F) (e : Nat) : FUq (F.dir e) := by
  intro d hd a b hab hb
  simp only [Fo.dir] at hd hb ⊢
  by_cases c : d = e
  · subst c
    simp at hb
  · rw [if_neg c] at hd hb
    exact h d hd a b hab hb
end Go.Proofs.YtimjggkdpmgpjaaGreatDoor

namespace Go.Proofs.YtimjggkdpmgpjaaGreatDoor
open Go Go.RowKit
set_option linter.unusedVariables false
/-- a deed -/
structure A19 where
  dr : Bool
  mo : Bool
  inn : Int
  i : Int
  s : ByteArray
def A19.cs (x : A19) : List Value := [.bool x.dr, .bool x.mo, .int .i64 x.inn, .int .i64 x.i, .string x.s]
/-- what any deed is -/
def A19.ok (x : A19) : Prop := (-9223372036854775808 ≤ x.inn ∧ x.inn ≤ 9223372036854775807) ∧ (-9223372036854775808 ≤ x.i ∧ x.i ≤ 9223372036854775807) ∧ x.s.size ≤ maxLen
def IsA19 (W : World) (a : Option Addr) (n : Nat) (A : Nat → A19) : Prop := ∀ i, i < n → ∃ b o, a = some ⟨b, o, none⟩ ∧ b < W.heap.size ∧ W.rangeAt b (o + i * 5) (A i).cs
theorem IsA19.below {W V : World} {a : Option Addr} {n : Nat} {A : Nat → A19} (h : IsA19 W a n A) (hb : Below W.heap.size W V) : IsA19 V a n A := fun i hi => by
  obtain ⟨b, o, h1, h2, h3⟩ := h i hi
  refine ⟨b, o, h1, Nat.lt_of_lt_of_le h2 hb.size, fun j v hv => ?_⟩
  rw [← h3 j v hv]
  simp [World.cell?, hb.block b h2]
theorem IsA19.cs {W : World} {a : Option Addr} {n i : Nat} {X : Nat → A19} (h : IsA19 W a n X) (hi : i < n) : ∃ b o, a = some ⟨b, o, none⟩ ∧ W.cell? ⟨b, o + i * 5, none⟩ = some (.bool (X i).dr) ∧ W.cell? ⟨b, o + i * 5 + 1, none⟩ = some (.bool (X i).mo) ∧ W.cell? ⟨b, o + i * 5 + 2, none⟩ = some (.int .i64 (X i).inn) ∧ W.cell? ⟨b, o + i * 5 + 3, none⟩ = some (.int .i64 (X i).i) ∧ W.cell? ⟨b, o + i * 5 + 4, none⟩ = some (.string (X i).s) := by
  obtain ⟨b, o, h1, _, h3⟩ := h i hi
  exact ⟨b, o, h1, h3 0 _ rfl, h3 1 _ rfl, h3 2 _ rfl, h3 3 _ rfl, h3 4 _ rfl⟩
end Go.Proofs.YtimjggkdpmgpjaaGreatDoor

namespace Go.Proofs.YtimjggkdpmgpjaaGreatDoor
open Go Go.RowKit
set_option linter.unusedSimpArgs false
set_option linter.unusedVariables false

/-- a block in which nothing is turned -/
theorem Turns.blk {S : Nat → Prop} {w w' : World} (h : Turns S w w') {b t : Nat} {cs : Array Value} (hb : Blk w b t cs) (hn : ¬ S b) : Blk w' b t cs := (h.block b hb.lt hn).trans hb
section
variable {c m : Nat} {dp lp o n : Option Addr} {room h r bd cn : Int}
end
end Go.Proofs.YtimjggkdpmgpjaaGreatDoor

namespace Go.Proofs.YtimjggkdpmgpjaaGreatDoor
open Go Go.RowKit
set_option linter.unusedSimpArgs false
set_option linter.unusedVariables false

theorem Turns.laid {S : Nat → Prop} {w w' : World} (h : Turns S w w') {b : Nat} (hb : w.heap.size ≤ b) (cs : Array Value) : Turns S w (w'.setRow b cs) := by
  have k : Below w.heap.size w' (w'.setRow b cs) := below_setRow (Below.refl _ _) hb cs
  exact ⟨k.os.trans h.os, k.tape.trans h.tape, k.output.trans h.output, Nat.le_trans h.size k.size, fun x hx hf => (k.block x hx).trans (h.block x hx hf)⟩
theorem Turns.alloc {S : Nat → Prop} {w w' : World} (h : Turns S w w') (o : Obj) : Turns S w (w'.alloc o) := by
  have k : Below w'.heap.size w' (w'.alloc o) := below_new1 _ _
  exact ⟨k.os.trans h.os, k.tape.trans h.tape, k.output.trans h.output, Nat.le_trans h.size k.size, fun x hx hf => (k.block x (Nat.lt_of_lt_of_le hx h.size)).trans (h.block x hx hf)⟩
section
variable {c m b : Nat} {dp lp o n : Option Addr} {room h r bd cn : Int}
end
end Go.Proofs.YtimjggkdpmgpjaaGreatDoor

namespace Go.Proofs.YtimjggkdpmgpjaaGreatDoor
open Go Go.RowKit
set_option linter.unusedSimpArgs false
set_option linter.unusedVariables false

/-- an entry: its reference, its block in the memory, its bytes -/
structure En where
  k : Rf
  b : Nat
  f : Nat → Nat
def enA (e : En) : Addr := ⟨e.b, 0, none⟩
def prevOf (L : List En) (i : Nat) : Option Addr := if i = 0 then none else (L[i - 1]?).map enA
def nextOf (L : List En) (i : Nat) : Option Addr := (L[i + 1]?).map enA
def headOf (L : List En) : Option Addr := (L[0]?).map enA
def lastOf (L : List En) : Option Addr := prevOf L L.length
section
variable {c b : Nat} {m : Nat} {dp lp o n : Option Addr} {room h r bd cn : Int} {R : Rf} {f : Nat → Nat}
end
end Go.Proofs.YtimjggkdpmgpjaaGreatDoor

namespace Go.Proofs.YtimjggkdpmgpjaaGreatDoor
open Go Go.RowKit
set_option linter.unusedSimpArgs false
set_option linter.unusedVariables false

/-- the chain of entries in the memory -/
structure ChainAt (w : World) (c m : Nat) (dp lp : Option Addr) (room h r bd cn : Int) (L : List En) : Prop where
  blk : Blk w c 126 (caC dp lp room m (headOf L) (lastOf L) h r bd cn)
  ents : ∀ i e, L[i]? = some e → Blk w e.b 292 (enC e.k e.f (prevOf L i) (nextOf L i))
  nd : ∀ (i j : Nat) (e e' : En), L[i]? = some e → L[j]? = some e' → e.b = e'.b → i = j
/-- its blocks -/
def chfoot (c : Nat) (L : List En) (x : Nat) : Prop := x = c ∨ ∃ e ∈ L, x = e.b
section
variable {w w' : World} {c m : Nat} {dp lp : Option Addr} {room h r bd cn : Int} {L : List En} {i : Nat} {e : En}
theorem ChainAt.below (H : ChainAt w c m dp lp room h r bd cn L) (hb : Below w.heap.size w w') : ChainAt w' c m dp lp room h r bd cn L := ⟨H.blk.below hb H.blk.lt, fun i e he => (H.ents i e he).below hb (H.ents i e he).lt, H.nd⟩
theorem ChainAt.kept (H : ChainAt w c m dp lp room h r bd cn L) (hk : ∀ x, chfoot c L x → w'.heap[x]? = w.heap[x]?) : ChainAt w' c m dp lp room h r bd cn L := ⟨(hk c (.inl rfl)).trans H.blk, fun i e he => (hk e.b (.inr ⟨e, List.mem_of_getElem? he, rfl⟩)).trans (H.ents i e he), H.nd⟩
theorem ChainAt.lt (H : ChainAt w c m dp lp room h r bd cn L) (x : Nat) (hx : chfoot c L x) : x < w.heap.size := by
  rcases hx with rfl | ⟨e, he, rfl⟩
  · exact H.blk.lt
  · obtain ⟨i, hi⟩ := List.mem_iff_getElem?.1 he
    exact (H.ents i e hi).lt
end
end Go.Proofs.YtimjggkdpmgpjaaGreatDoor

namespace Go.Proofs.YtimjggkdpmgpjaaGreatDoor
open Go Go.RowKit
set_option linter.unusedSimpArgs false
set_option linter.unusedVariables false

/-- the map of the entries -/
def MapFor (w : World) (m : Nat) (L : List En) : Prop := ∃ es : List (Rf × Nat), MapIs rfV ptV w m es ∧ es.length = L.length ∧ (es.map Prod.fst).Nodup ∧ ∀ k b, findIn k es = some b ↔ ∃ e ∈ L, e.k = k ∧ e.b = b
/-- a cache's entries in the memory -/
structure CaAt (w : World) (c m : Nat) (dp lp : Option Addr) (room h r bd cn : Int) (L : List En) : Prop where
  ch : ChainAt w c m dp lp room h r bd cn L
  mp : MapFor w m L
/-- its blocks -/
def cafo (c m : Nat) (L : List En) (x : Nat) : Prop := chfoot c L x ∨ x = m
section
variable {w w' : World} {c m : Nat} {dp lp : Option Addr} {room h r bd cn : Int} {L : List En} {i : Nat} {e : En} {k : Rf}
theorem MapFor.of (H : MapFor w m L) (hk : w'.heap[m]? = w.heap[m]?) : MapFor w' m L := by
  obtain ⟨es, h1, h2⟩ := H
  exact ⟨es, h1.of hk, h2⟩
theorem MapFor.lt (H : MapFor w m L) : m < w.heap.size := by
  obtain ⟨es, h1, h2⟩ := H
  exact h1.lt
theorem MapFor.ne (H : MapFor w m L) {b t : Nat} {cs : Array Value} (hb : Blk w b t cs) : m ≠ b := by
  obtain ⟨es, h1, h2⟩ := H
  exact h1.ne hb
theorem MapFor.same (H : MapFor w m L) {L' : List En} (hl : L'.length = L.length) (he : ∀ x, x ∈ L' ↔ x ∈ L) : MapFor w m L' := by
  obtain ⟨es, h1, h2, h3, h4⟩ := H
  exact ⟨es, h1, h2.trans hl.symm, h3, fun k b => (h4 k b).trans ⟨fun ⟨e, a, b⟩ => ⟨e, (he e).2 a, b⟩, fun ⟨e, a, b⟩ => ⟨e, (he e).1 a, b⟩⟩⟩
theorem CaAt.below (H : CaAt w c m dp lp room h r bd cn L) (hb : Below w.heap.size w w') : CaAt w' c m dp lp room h r bd cn L := ⟨H.ch.below hb, H.mp.of (hb.block m H.mp.lt)⟩
theorem CaAt.drew (H : CaAt w c m dp lp room h r bd cn L) : CaAt w.drew c m dp lp room h r bd cn L := H.below (Below.refl _ _).drew
theorem CaAt.kept (H : CaAt w c m dp lp room h r bd cn L) (hk : ∀ x, cafo c m L x → w'.heap[x]? = w.heap[x]?) : CaAt w' c m dp lp room h r bd cn L := ⟨H.ch.kept fun x hx => hk x (.inl hx), H.mp.of (hk m (.inr rfl))⟩
theorem CaAt.lt (H : CaAt w c m dp lp room h r bd cn L) (x : Nat) (hx : cafo c m L x) : x < w.heap.size := by
  rcases hx with hx | rfl
  · exact H.ch.lt x hx
  · exact H.mp.lt
theorem CaAt.setRow (H : CaAt w c m dp lp room h r bd cn L) {b : Nat} (hb : ¬ cafo c m L b) (cs : Array Value) : CaAt (w.setRow b cs) c m dp lp room h r bd cn L := H.kept fun x hx => setRow_other w b x cs fun e => hb (e ▸ hx)
theorem CaAt.one (H : CaAt w c m dp lp room h r bd cn L) {e e' : En} (he : e ∈ L) (he' : e' ∈ L) (hk : e.k = e'.k) : e.b = e'.b := by
  obtain ⟨es, h1, h2, h3, h4⟩ := H.mp
  have h5 := (h4 e.k e.b).2 ⟨e, he, rfl, rfl⟩
  have h6 := (h4 e.k e'.b).2 ⟨e', he', hk.symm, rfl⟩
  rw [h5] at h6
  injection h6
theorem mem_erased {x : En} (hx : x ∈ L.eraseIdx i) : x ∈ L := by
  obtain ⟨j, _, hj⟩ := List.mem_eraseIdx_iff_getElem?.1 hx
  exact List.mem_of_getElem? hj
theorem ChainAt.other (H : ChainAt w c m dp lp room h r bd cn L) (hi : L[i]? = some e) (j : Nat) (e' : En) (hj : (L.eraseIdx i)[j]? = some e') : e'.b ≠ e.b := fun hb => by
  rw [List.getElem?_eraseIdx] at hj
  split at hj
  · have := H.nd _ _ _ _ hj hi hb
    omega
  · have := H.nd _ _ _ _ hj hi hb
    omega
end
end Go.Proofs.YtimjggkdpmgpjaaGreatDoor

namespace Go.Proofs.YtimjggkdpmgpjaaGreatDoor
open Go Go.RowKit
set_option linter.unusedSimpArgs false
set_option linter.unusedVariables false

/-- the entries but the one of a reference, if it is there -/
def PutL (L : List En) (k : Rf) (L1 : List En) : Prop := (∃ i e, L[i]? = some e ∧ e.k = k ∧ L1 = L.eraseIdx i) ∨ ((∀ e ∈ L, e.k ≠ k) ∧ L1 = L)
theorem PutL.sub {L L1 : List En} {k : Rf} (h : PutL L k L1) {x : En} (hx : x ∈ L1) : x ∈ L := by
  rcases h with ⟨i, e, _, _, rfl⟩ | ⟨_, rfl⟩
  · exact mem_erased hx
  · exact hx
theorem PutL.foot {L L1 : List En} {k : Rf} (h : PutL L k L1) {c m x : Nat} (hx : cafo c m L1 x) : cafo c m L x := by
  rcases hx with (hx | ⟨e, he, hx⟩) | hx
  · exact .inl (.inl hx)
  · exact .inl (.inr ⟨e, h.sub he, hx⟩)
  · exact .inr hx
section
variable {w w' : World} {c m : Nat} {dp lp : Option Addr} {room h r bd cn : Int} {L L1 : List En} {i : Nat} {e : En} {k : Rf}
theorem PutL.none (H : CaAt w c m dp lp room h r bd cn L) (hp : PutL L k L1) : ∀ e ∈ L1, e.k ≠ k := by
  rcases hp with ⟨i, e, hi, rfl, rfl⟩ | ⟨hn, rfl⟩
  · intro x hx hk
    obtain ⟨j, hj, hj2⟩ := List.mem_eraseIdx_iff_getElem?.1 hx
    exact hj (H.ch.nd _ _ _ _ hj2 hi (H.one (List.mem_of_getElem? hj2) (List.mem_of_getElem? hi) hk))
  · exact hn
/-- how many keys a map has -/
def mapSz (w : World) (m : Nat) : Nat := match w.heap[m]? with
  | some (.map es _) => es.size
  | _ => 0
theorem MapFor.sz (H : MapFor w m L) : mapSz w m = L.length := by
  obtain ⟨es, ⟨xs, cl, hg, he⟩, hl, _⟩ := H
  unfold mapSz
  rw [hg]
  have := congrArg List.length he
  simp at this
  show xs.size = _
  omega
theorem MapFor.len (H : MapFor w m L) (ty : TypeId) : (Builtin.len_ #[118] ty #[.map (some m)]).run Tryz.prog w = .ok (.int .i64 (L.length : Int)) w := by
  obtain ⟨es, h1, h2, _⟩ := H
  have := map_len h1 ty
  rw [h2] at this
  exact this
end
section
variable {w w' : World} {c m room : Nat} {dp lp : Option Addr} {h r bd cn : Int} {L L1 : List En} {i : Nat} {e : En} {k : Rf}
end
end Go.Proofs.YtimjggkdpmgpjaaGreatDoor

namespace Go.Proofs.YtimjggkdpmgpjaaGreatDoor
open Go Go.RowKit
set_option linter.unusedSimpArgs false
set_option linter.unusedVariables false

section
variable {w w' : World} {c m B g N kk lg room : Nat} {F : Nat → Nat} {q q' : QD} {dp lp : Option Addr} {h r bd cn h2 r2 bd2 cn2 : Int} {L L1 : List En} {i : Nat} {e : En} {k : Rf}
/-- a disk and a cache on it -/
structure CD (w : World) (B g N : Nat) (F : Nat → Nat) (kk lg : Nat) (q : QD) (c m room : Nat) (h r bd cn : Int) (L : List En) : Prop where
  d : DiskQ w B g N F kk lg q
  ca : CaAt w c m (some ⟨g, 0, none⟩) none (room : Int) h r bd cn L
  ap : ∀ x, cafo c m L x → ¬ foot g N q x
  lo : ∀ x, cafo c m L x → B ≤ x
/-- its blocks -/
def cdfo (g N : Nat) (q : QD) (c m : Nat) (L : List En) (x : Nat) : Prop := foot g N q x ∨ cafo c m L x
theorem CD.below (H : CD w B g N F kk lg q c m room h r bd cn L) (hb : Below w.heap.size w w') : CD w' B g N F kk lg q c m room h r bd cn L := ⟨H.d.below hb, H.ca.below hb, H.ap, H.lo⟩
theorem CD.kept (H : CD w B g N F kk lg q c m room h r bd cn L) (hk : ∀ x, cdfo g N q c m L x → w'.heap[x]? = w.heap[x]?) : CD w' B g N F kk lg q c m room h r bd cn L := ⟨H.d.kept fun x hx => hk x (.inl hx), H.ca.kept fun x hx => hk x (.inr hx), H.ap, H.lo⟩
theorem CD.lt (H : CD w B g N F kk lg q c m room h r bd cn L) (x : Nat) (hx : cdfo g N q c m L x) : B ≤ x ∧ x < w.heap.size := by
  rcases hx with hx | hx
  · exact H.d.foots x hx
  · exact ⟨H.lo x hx, H.ca.lt x hx⟩
end
section
variable {c m B g N kk lg room : Nat} {F : Nat → Nat} {q : QD} {dp lp : Option Addr} {h r bd cn : Int} {L L1 : List En} {i : Nat} {e : En} {k : Rf}
end
end Go.Proofs.YtimjggkdpmgpjaaGreatDoor

namespace Go.Proofs.YtimjggkdpmgpjaaGreatDoor
open Go Go.RowKit
set_option linter.unusedSimpArgs false
set_option linter.unusedVariables false

/-- a block of the disk -/
def blkAt (F : Nat → Nat) (a : Nat) : Nat → Nat := fun j => F (a * 256 + j)
/-- is what a reference says there? -/
def gotOk (F : Nat → Nat) (N : Nat) (k : Rf) : Prop := k.1 ≠ 0 ∧ k.1 < N ∧ dgB (blkAt F k.1) = k.2
instance (F : Nat → Nat) (N : Nat) (k : Rf) : Decidable (gotOk F N k) := by unfold gotOk; infer_instance
/-- entries that say what the disk says -/
def ValidL (F : Nat → Nat) (N : Nat) (L : List En) : Prop := ∀ e ∈ L, e.k ≠ rf0 ∧ gotOk F N e.k ∧ e.f = blkAt F e.k.1
/-- a disk and a cache, behind i calls at most; U: their blocks -/
structure TD (W : World) (B g N : Nat) (F : Nat → Nat) (c m room i : Nat) (U : Nat → Prop) : Prop where
  ex : ∃ q kk lg h r bd cn L, CD W B g N F kk lg q c m room h r bd cn L ∧ Quiet q kk ∧ kk ≤ i ∧ lg ≤ i ∧ (0 ≤ h ∧ h ≤ (i : Int)) ∧ (0 ≤ r ∧ r ≤ (i : Int)) ∧ (0 ≤ bd ∧ bd ≤ (i : Int)) ∧ ValidL F N L ∧ ∀ x, U x ↔ cdfo g N q c m L x
  nz : 0 < N
  nN : N ≤ 8192
  rm : room ≤ 4096
  hB : B ≤ W.heap.size
section
variable {W W' : World} {B g N c m room i : Nat} {F : Nat → Nat} {U : Nat → Prop}
theorem TD.below (H : TD W B g N F c m room i U) (hb : Below W.heap.size W W') : TD W' B g N F c m room i U := by
  obtain ⟨q, kk, lg, h, r, bd, cn, L, h1, h2⟩ := H.ex
  exact ⟨⟨q, kk, lg, h, r, bd, cn, L, h1.below hb, h2⟩, H.nz, H.nN, H.rm, Nat.le_trans H.hB hb.size⟩
theorem TD.kept (H : TD W B g N F c m room i U) (hs : W.heap.size ≤ W'.heap.size) (hk : ∀ x, U x → W'.heap[x]? = W.heap[x]?) : TD W' B g N F c m room i U := by
  obtain ⟨q, kk, lg, h, r, bd, cn, L, h1, h2, h3, h4, h5, h6, h7, h8, h9⟩ := H.ex
  exact ⟨⟨q, kk, lg, h, r, bd, cn, L, h1.kept fun x hx => hk x ((h9 x).2 hx), h2, h3, h4, h5, h6, h7, h8, h9⟩, H.nz, H.nN, H.rm, Nat.le_trans H.hB hs⟩
theorem TD.lt (H : TD W B g N F c m room i U) (x : Nat) (hx : U x) : B ≤ x ∧ x < W.heap.size := by
  obtain ⟨q, kk, lg, h, r, bd, cn, L, h1, h2, h3, h4, h5, h6, h7, h8, h9⟩ := H.ex
  exact h1.lt x ((h9 x).1 hx)
theorem TD.mono (H : TD W B g N F c m room i U) {j : Nat} (hj : i ≤ j) : TD W B g N F c m room j U := by
  obtain ⟨q, kk, lg, h, r, bd, cn, L, h1, h2, h3, h4, h5, h6, h7, h8, h9⟩ := H.ex
  exact ⟨⟨q, kk, lg, h, r, bd, cn, L, h1, h2, by omega, by omega, by omega, by omega, by omega, h8, h9⟩, H.nz, H.nN, H.rm, H.hB⟩
/-- what a call does to them -/
def TDStep (W W' : World) (B g N : Nat) (F : Nat → Nat) (c m room i : Nat) (U : Nat → Prop) : Prop := ∃ U', TD W' B g N F c m room i U' ∧ Turns U W W' ∧ ∀ x, U' x → U x ∨ W.heap.size ≤ x
theorem TDStep.of_below (H : TD W B g N F c m room i U) (hb : Below W.heap.size W W') : TDStep W W' B g N F c m room i U := ⟨U, H.below hb, .of_below hb, fun _ => .inl⟩
theorem TDStep.trans {W1 W2 W3 : World} {i j : Nat} {U V : Nat → Prop} (ht : Turns U W1 W2) (hv : ∀ x, V x → U x ∨ W1.heap.size ≤ x) (h : TDStep W2 W3 B g N F c m room j V) : TDStep W1 W3 B g N F c m room j U := by
  obtain ⟨V', h1, h2, h3⟩ := h
  refine ⟨V', h1, ht.trans h2 hv, fun x hx => ?_⟩
  rcases h3 x hx with h | h
  · exact hv x h
  · exact .inr (Nat.le_trans ht.size h)
end
end Go.Proofs.YtimjggkdpmgpjaaGreatDoor

namespace Go.Proofs.YtimjggkdpmgpjaaGreatDoor
open Go Go.RowKit
set_option linter.unusedSimpArgs false
set_option linter.unusedVariables false

theorem and3 (z : Nat) (hz : z < 9223372036854775808) : bits .and .i64 (z : Int) 3 = ((z % 4 : Nat) : Int) := by
  have h1 : (BitVec.ofInt 64 (z : Int)).toNat = z := by
    rw [BitVec.ofInt_natCast, BitVec.toNat_ofNat]; exact Nat.mod_eq_of_lt (by omega)
  have h2 : (BitVec.ofInt 64 (3 : Int)).toNat = 3 := by decide
  show IntKind.i64.wrap ((BitVec.ofInt 64 (z : Int) &&& BitVec.ofInt 64 (3 : Int)).toNat : Int) = _
  rw [BitVec.toNat_and, h1, h2, Nat.and_two_pow_sub_one_eq_mod z 2, IntKind.wrap_i64]
  omega
theorem pow4_le (h : Nat) (hh : h ≤ 6) : 4 ^ h ≤ 4096 := Nat.pow_le_pow_right (n := 4) (by decide) hh
theorem mayBe_yes (h : Nat) (hh : h ≤ 6) (w : World) : Calls Tryz.prog 153 #[.int .i64 (h : Int)] w fun e w' => e = .returned (.bool true) ∧ w = w' := by
  have hd : decide ((h : Int) ≤ 6) = true := decide_eq_true (by omega)
  go_enter Tryz.func153, Tryz.ntmps153
  go_wp2
  go_ret
  exact ⟨rfl, rfl⟩
theorem mayBe_no (h : Int) (hh : h < 0 ∨ 6 < h) (w : World) : Calls Tryz.prog 153 #[.int .i64 h] w fun e w' => e = .returned (.bool false) ∧ w = w' := by
  go_enter Tryz.func153, Tryz.ntmps153
  rcases hh with hh | hh
  · go_wp2
    go_ret
    exact ⟨rfl, rfl⟩
  · have h0 : 0 ≤ h := by omega
    have hd : decide (h ≤ 6) = false := decide_eq_false (by omega)
    go_wp2
    go_ret
    exact ⟨rfl, rfl⟩
theorem wrap_pow4 (p h : Nat) (hp : p * 4 ^ h < 9223372036854775808) : wrap64 ((p : Int) * 2 ^ (2 * h)) = ((p * 4 ^ h : Nat) : Int) := by
  have e : ((p : Int) * 2 ^ (2 * h)) = ((p * 4 ^ h : Nat) : Int) := by
    rw [show (4 : Nat) ^ h = 2 ^ (2 * h) by rw [Nat.pow_mul]]
    push_cast
    rfl
  rw [e, ← IntWalk.i64_left, IntKind.wrap_i64]
  omega
theorem firstLeaf_any (h p c : Nat) (hh : h ≤ 6) (hc : p * 4 ^ h = c) (hp : p < 1099511627776) (w : World) : Calls Tryz.prog 154 #[.int .i64 (h : Int), .int .i64 (p : Int)] w fun e w' => e = .returned (.int .i64 (c : Int)) ∧ w = w' := by
  have hq : p * 4 ^ h < 9223372036854775808 := by
    have h1 := pow4_le h hh
    have h2 := Nat.mul_le_mul (Nat.le_of_lt hp) h1
    omega
  have h1 : (h : Int) ≤ 6 := by omega
  go_enter Tryz.func154, Tryz.ntmps154
  go_wp2
  go_ret
  refine ⟨congrArg (fun x => Ending.returned (.int .i64 x)) ?_, rfl⟩
  rw [← hc]
  exact wrap_pow4 p h hq
theorem capacity_ok (h c : Nat) (hh : h ≤ 6) (hc : 4 ^ h = c) (w : World) : Calls Tryz.prog 125 #[.int .i64 (h : Int)] w fun e w' => e = .returned (.tuple #[.int .i64 (c : Int), .int .i64 0]) ∧ w = w' := by
  go_enter Tryz.func125, Tryz.ntmps125
  go_wp2_with fail
  refine (mayBe_yes h hh w).mono ?_
  rintro e _ ⟨rfl, rfl⟩
  go_wp2_with fail
  refine (firstLeaf_any h 1 c hh (by omega) (by decide) w).mono ?_
  rintro e _ ⟨rfl, rfl⟩
  go_wp2_with fail
  go_ret2
  exact ⟨rfl, rfl⟩
/-- the place at step i of a way -/
def wayN (h p : Nat) : Nat → Nat := fun i => p / 4 ^ (h - 1 - i) % 4
theorem tinfoInt : (Tryz.prog.info? 3).map (fun i => (i.zero, i.size, i.bytes)) = some (some (.int .i64 0), 1, 8) := by kernel_rfl
theorem tinfo_parts {t : TypeId} {z : Value} {n b : Nat} (h : (Tryz.prog.info? t).map (fun i => (i.zero, i.size, i.bytes)) = some (some z, n, b)) : ∃ i, Tryz.prog.info? t = some i ∧ i.zero = some z ∧ i.size = n ∧ i.bytes = b := by
  cases hq : Tryz.prog.info? t with
  | none => simp [hq] at h
  | some i =>
    simp [hq] at h
    exact ⟨i, rfl, h.1, h.2.1, h.2.2⟩
theorem tmade_one (v : Value) (n : Nat) : madeCells #[v] n = va n fun _ => v := by
  refine va_ext (size_madeCells _ _) fun i hi => ?_
  unfold madeCells
  simp [hi, Nat.mod_one]
theorem tmake_ints (n : Nat) (hn : n ≤ 8192) (w : World) : (Instr.makeSlice 110 (.int .i64 (n : Int)) (.int .i64 (n : Int))).run Tryz.prog w = .ok (.slice (some ⟨w.heap.size, 0, none⟩) n n) (w.alloc (.cells (va n (iv .i64 fun _ => 0)) 3)) := by
  obtain ⟨i0, hi, hz0, hz1, hz2⟩ := tinfo_parts tinfoInt
  have := run_make (P := Tryz.prog) w 110 3 i0 (.int .i64 0) Tryz.underlying110 hi hz0 .i64 .i64 (n : Int) (n : Int) (by omega) (Int.le_refl _) (by rw [hz2]; omega) (by omega)
  rw [hz1] at this
  simp only [Int.toNat_natCast, Value.cells, tmade_one, Nat.mul_one] at this
  exact this
theorem shr_way (p k : Nat) : (p : Int) / 2 ^ (2 * k) = ((p / 4 ^ k : Nat) : Int) := by
  rw [show (4 : Nat) ^ k = 2 ^ (2 * k) by rw [Nat.pow_mul]]
  push_cast
  rfl
set_option maxHeartbeats 1000000 in
theorem way_ok (h p : Nat) (hh : h ≤ 6) (hp : p < 4 ^ h) (w : World) : Calls Tryz.prog 149 #[.int .i64 (h : Int), .int .i64 (p : Int)] w fun e w' => e = .returned (.tuple #[.slice (some ⟨w.heap.size, 0, none⟩) h h, .int .i64 0]) ∧ Blk w' w.heap.size 3 (va h (iv .i64 (wayN h p))) ∧ Below w.heap.size w w' := by
  obtain ⟨c, hc⟩ : ∃ c, 4 ^ h = c := ⟨_, rfl⟩
  have hc4 : c ≤ 4096 := hc ▸ pow4_le h hh
  rw [hc] at hp
  have hmk := tmake_ints h (by omega)
  have h6 : (h : Int) ≤ 6 := by omega
  have hd1 : decide ((p : Int) < 0) = false := decide_eq_false (by omega)
  have hd2 : decide (c ≤ p) = false := decide_eq_false (by omega)
  have HC : Hid (4 ^ h = c) := hc
  clear hc
  go_enter Tryz.func149, Tryz.ntmps149
  go_wp2_with fail
  refine (capacity_ok h c hh HC.out w).mono ?_
  rintro e _ ⟨rfl, rfl⟩
  go_wp2_with fail
  have b0 := Blk.new w 3 (va h (iv .i64 fun _ => 0))
  have hb0 : Below w.heap.size w (w.alloc (.cells (va h (iv .i64 fun _ => 0)) 3)) := (Below.refl _ _).alloc (Nat.le_refl _) _
  generalize (w.alloc (.cells (va h (iv .i64 fun _ => 0)) 3)) = w1 at *
  go_loopw [29] (fun i wr => ∃ k : Nat, k ≤ h ∧ i = .int .i64 (k : Int) ∧ Blk wr w.heap.size 3 (va h (iv .i64 (fupN k (wayN h p) fun _ => 0))) ∧ Below w.heap.size w wr) (fun i _ => h - (intOf i).toNat)
  case atStart => exact ⟨0, Nat.zero_le _, rfl, by rw [fup_zero]; exact b0, hb0⟩
  case round =>
    clear b0 hb0
    obtain ⟨k, hk, rfl, bk, hb⟩ := hrel
    by_cases hlt : k < h
    · have hfz := bk.frozen k
      have hcv := bk.cv hlt
      obtain ⟨l, hl⟩ : ∃ l : Nat, l = h - 1 - k := ⟨_, rfl⟩
      have hl1 : (h : Int) - 1 - (k : Int) = (l : Int) := by omega
      have hl6 : (l : Int) ≤ 6 := by omega
      have hv : bits .and .i64 ((p : Int) / 2 ^ (2 * (h - 1 - k))) 3 = ((wayN h p k : Nat) : Int) := by
        rw [shr_way, and3 _ (Nat.lt_of_le_of_lt (Nat.div_le_self _ _) (by omega))]
        rfl
      have bk1 := bk.put k (.int .i64 (wayN h p k : Int))
      rw [va_set, fup_step] at bk1
      go_wp2_with fail
      refine ⟨⟨k + 1, hlt, rfl, bk1, hb.setCell (p := ⟨w.heap.size, k, none⟩) (Nat.le_refl _) _⟩, ?_⟩
      simp only [intOf]
      omega
    · have hkh : k = h := by omega
      subst hkh
      go_wp2_with fail
      go_ret2
      refine ⟨rfl, ?_, hb⟩
      rw [fup_all _ _ _ _ _ (Nat.le_refl _)] at bk
      exact bk
end Go.Proofs.YtimjggkdpmgpjaaGreatDoor

namespace Go.Proofs.YtimjggkdpmgpjaaGreatDoor
open Go Go.RowKit
set_option linter.unusedSimpArgs false
set_option linter.unusedVariables false

theorem le4_dig (n : Nat) (h : n < 4294967296) : le4 (dig n 0) (dig n 1) (dig n 2) (dig n 3) = n := by
  unfold le4 dig
  simp
  omega
/-- what Encode lays, Decode takes -/
theorem decR_of (s : ByteArray) (a : Nat) (r : Rf) (hr : r.1 < 4294967296) (h : ∀ j, j < 36 → tbyte s (a + j) = encR r j) : decR s a = r := by
  obtain ⟨n, d⟩ := r
  unfold decR at4
  have e : ∀ j, j < 4 → tbyte s (a + j) = dig n j := fun j hj => by
    rw [h j (by omega)]
    unfold encR
    rw [if_pos hj]
  have e0 : tbyte s a = dig n 0 := e 0 (by decide)
  rw [e0, e 1 (by decide), e 2 (by decide), e 3 (by decide), le4_dig n hr]
  have e2 : (sumD fun i => tbyte s (a + 4 + i)) = d := dF_inj fun i hi => by
    rw [dF_sumD _ i hi]
    have := h (4 + i) (by omega)
    rw [show a + (4 + i) = a + 4 + i by omega] at this
    rw [this]
    unfold encR
    rw [if_neg (by omega), show 4 + i - 4 = i by omega]
  rw [e2]
end Go.Proofs.YtimjggkdpmgpjaaGreatDoor

namespace Go.Proofs.YtimjggkdpmgpjaaGreatDoor
open Go Go.RowKit
set_option linter.unusedSimpArgs false
set_option linter.unusedVariables false

/-- a tree's cells -/
def trF (h : Int) (R : Rf) : Nat → Value := fun i => if i = 0 then .int .i64 h else rfF R.1 R.2 (i - 1)
def trC (h : Int) (R : Rf) : Array Value := va 34 (trF h R)
/-- a position's cells -/
def poF (l p : Int) (R : Rf) : Nat → Value := fun i => if i = 0 then .int .i64 l else if i = 1 then .int .i64 p else rfF R.1 R.2 (i - 2)
def poC (l p : Int) (R : Rf) : Array Value := va 35 (poF l p R)
theorem trC_size (h : Int) (R : Rf) : (trC h R).size = 34 := va_size _ _
theorem poC_size (l p : Int) (R : Rf) : (poC l p R).size = 35 := va_size _ _
theorem trC_all (h : Int) (R : Rf) : (trC h R).all (·.oneCell') = true := va_one fun i _ => by
  unfold trF
  split
  · rfl
  · exact rfF_one _ _ _
theorem poC_all (l p : Int) (R : Rf) : (poC l p R).all (·.oneCell') = true := va_one fun i _ => by
  unfold poF
  split
  · rfl
  · split
    · rfl
    · exact rfF_one _ _ _
theorem sizeTr : (Tryz.prog.info? 76).map (·.size) = some 34 := by kernel_rfl
theorem sizePo : (Tryz.prog.info? 263).map (·.size) = some 35 := by kernel_rfl
theorem tsizeRef : (Tryz.prog.info? 74).map (·.size) = some 33 := by kernel_rfl
theorem zero_po (w : World) : (zeroValue 263).run Tryz.prog w = .ok (.agg (poC 0 0 rf0)) w := zero_of (by kernel_rfl) w
theorem built_po2 (l : Int) (R : Rf) : Tryz.prog.built 263 [(0, .int .i64 l), (2, .agg (rfC R))] = some (poC l 0 R) := by kernel_rfl
theorem tr_range {w : World} {b t : Nat} {h : Int} {R : Rf} (H : Blk w b t (trC h R)) : w.rangeAt b 1 ((List.range 33).map (rfF R.1 R.2)) := by
  have := Blk.range (n := 34) (f := trF h R) H 1 33 (by decide)
  rw [show ((List.range 33).map fun j => trF h R (1 + j)) = (List.range 33).map (rfF R.1 R.2) from List.map_congr_left fun j hj => ?_] at this
  · exact this
  · unfold trF
    rw [if_neg (by omega), show 1 + j - 1 = j by omega]
theorem po_range {w : World} {b t : Nat} {l p : Int} {R : Rf} (H : Blk w b t (poC l p R)) : w.rangeAt b 2 ((List.range 33).map (rfF R.1 R.2)) := by
  have := Blk.range (n := 35) (f := poF l p R) H 2 33 (by decide)
  rw [show ((List.range 33).map fun j => poF l p R (2 + j)) = (List.range 33).map (rfF R.1 R.2) from List.map_congr_left fun j hj => ?_] at this
  · exact this
  · unfold poF
    rw [if_neg (by omega), if_neg (by omega), show 2 + j - 2 = j by omega]
theorem tr_build2 {P : Program} {ops : Array Oper} {rest : List Oper} {o : Oper} {a : Act} {w : World} {Q : Exit → Act → World → Prop} (hg : o.guard = none) (t : TypeId) (i j : Nat) (x y : Operand) (ho : o.op = .build t #[(i, x), (j, y)]) (vx vy : Value) (hx : a.eval x = vx) (hy : a.eval y = vy)
    (cells : Array Value) (hf : P.built t [(i, vx), (j, vy)] = some cells) (h : wpList P ops Q rest (a.put o.dst (.agg cells)) w) : wpList P ops Q (o :: rest) a w := by
  refine wpList_buildTo hg t _ ho o.dst rfl cells ?_ h
  have e : (Array.map (fun (x : Nat × Operand) => match x with | (i, x) => (i, a.eval x)) #[(i, x), (j, y)]).toList = [(i, vx), (j, vy)] := by simp [hx, hy]
  rw [e]
  exact hf
set_option maxRecDepth 100000 in
set_option maxHeartbeats 4000000 in
theorem root_any (h : Int) (R : Rf) (w : World) : Calls Tryz.prog 150 #[.agg (trC h R)] w fun x w' => x = .returned (.agg (poC h 0 R)) ∧ Below w.heap.size w w' := by
  have hz := zero_po
  have hb1 : Below w.heap.size w ((w.alloc (.cells (trC h R) 76)).alloc (.cells (poC 0 0 rf0) 263)) := below_new2 _ _ _
  have t1 : Blk ((w.alloc (.cells (trC h R) 76)).alloc (.cells (poC 0 0 rf0) 263)) w.heap.size 76 (trC h R) := (Blk.new _ _ _).alloc _
  have p1 : Blk ((w.alloc (.cells (trC h R) 76)).alloc (.cells (poC 0 0 rf0) 263)) (w.heap.size + 1) 263 (poC 0 0 rf0) := Blk.new1 _ _ _ _
  have z1 : ((w.alloc (.cells (trC h R) 76)).alloc (.cells (poC 0 0 rf0) 263)).cell? ⟨w.heap.size, 0, none⟩ = some (.int .i64 h) := (t1.cell 0).trans (va_at (trF h R) (by decide))
  have HR : Hid (((w.alloc (.cells (trC h R) 76)).alloc (.cells (poC 0 0 rf0) 263)).rangeAt w.heap.size 1 ((List.range 33).map (rfF R.1 R.2))) := tr_range t1
  have HB : Hid (Tryz.prog.built 263 [(0, .int .i64 h), (2, .agg (rfC R))] = some (poC h 0 R)) := built_po2 h R
  go_enter Tryz.func150, Tryz.ntmps150
  go_wp2_with (first
    | (refine wpList_load_blk (by rfl) 74 _ (by rfl) (w.heap.size) (1) 33 (rfF R.1 R.2) (by rfl) _ (by exact HR.out) Tryz.underlying74 rfl tsizeRef ?_; simp only [Act.put, List.setIfInBounds_toArray, List.set_cons_zero, List.set_cons_succ])
    | (refine tr_build2 (by rfl) 263 0 2 _ _ (by rfl) (.int .i64 h) (.agg (rfC R)) (by rfl) (by rfl) (poC h 0 R) (by exact HB.out) ?_; simp only [Act.put, List.setIfInBounds_toArray, List.set_cons_zero, List.set_cons_succ])
    | (refine wpList_store_row (by rfl) 263 _ _ (by rfl) (w.heap.size + 1) (poC h 0 R) (by rfl) (by rfl) 263 (_) (by exact p1) (sizePo.trans (by rw [poC_size])) (by simp only [poC_size]) (poC_all _ _ _) ?_; simp only [Act.put, List.setIfInBounds_toArray, List.set_cons_zero, List.set_cons_succ])
    | fail)
  try simp only [Exit.inBlock, Exit.then]
  refine bodyPost_ret (results_cell_row Tryz.results150 _ _ (w.heap.size + 1) 263 (poC h 0 R) (0, 0) _ rfl (p1.set _) Tryz.underlying263 rfl (sizePo.trans (by rw [poC_size]))) rfl ?_
  exact ⟨rfl, below_setRow hb1 (by omega) _⟩
end Go.Proofs.YtimjggkdpmgpjaaGreatDoor

namespace Go.Proofs.YtimjggkdpmgpjaaGreatDoor
open Go Go.RowKit
set_option linter.unusedSimpArgs false
set_option linter.unusedVariables false

/-- may a tree be? -/
def trOk (h : Int) (R : Rf) : Prop := rOk R = true ∧ 0 ≤ h ∧ h ≤ 6
instance (h : Int) (R : Rf) : Decidable (trOk h R) := by unfold trOk; infer_instance
set_option maxRecDepth 100000 in
set_option maxHeartbeats 4000000 in
theorem right_ref (h : Int) (R : Rf) (hR : R.1 < 4294967296) (hD : okD R.2) (hok : rOk R = true) (y : Bool) (hy : ∀ w, Calls Tryz.prog 153 #[.int .i64 h] w fun e w1 => e = .returned (.bool y) ∧ w = w1) (w : World) : Calls Tryz.prog 148 #[.agg (trC h R)] w fun x w' => x = .returned (.bool y) ∧ Below w.heap.size w w' := by
  have hz := zero_ref
  have hEn : Hid (∀ w, Calls Tryz.prog 174 #[.agg (rfC R)] w fun e w' => e = .returned (.string (strN (encR R) 36)) ∧ Below w.heap.size w w') := encR_any R hD
  have hDe : Hid (∀ w, Calls Tryz.prog 173 #[.string (strN (encR R) 36), .int .i64 0] w fun e w' => e = .returned (.tuple #[.agg (rfC R), .bool true]) ∧ Below w.heap.size w w') := fun w => by
    have h1 := decodeR_good (strN (encR R) 36) 0 (by rw [strN_size]; unfold maxLen; decide) (by rw [strN_size]; decide) w
    rw [decR_of (strN (encR R) 36) 0 R hR (fun j hj => by rw [Nat.zero_add]; exact strN_at (encR R) 36 j hj (encR_lt R hD j hj))] at h1
    simp only [hok, if_true, Bool.false_eq_true, if_false] at h1
    exact h1
  have hsz : (strN (encR R) 36).size = 36 := strN_size _ _
  have hb1 : Below w.heap.size w (w.alloc (.cells (trC h R) 76)) := below_new1 _ _
  have t1 : Blk (w.alloc (.cells (trC h R) 76)) w.heap.size 76 (trC h R) := Blk.new _ _ _
  have HR1 : Hid ((w.alloc (.cells (trC h R) 76)).rangeAt w.heap.size 1 ((List.range 33).map (rfF R.1 R.2))) := tr_range t1
  clear hok hD hR
  generalize strN (encR R) 36 = sv at *
  go_enter Tryz.func148, Tryz.ntmps148
  go_wp2_with (first
    | (refine wpList_load_blk (by rfl) 74 _ (by rfl) (w.heap.size) (1) 33 (rfF R.1 R.2) (by rfl) _ (by exact HR1.out) Tryz.underlying74 rfl tsizeRef ?_; simp only [Act.put, List.setIfInBounds_toArray, List.set_cons_zero, List.set_cons_succ])
    | fail)
  generalize (w.alloc (.cells (trC h R) 76)) = w1 at *
  refine (hEn.out w1).mono ?_
  rintro x w2 ⟨rfl, hb2⟩
  have t2 := t1.below hb2 t1.lt
  have hb12 : Below w.heap.size w w2 := hb1.trans (hb2.mono hb1.size)
  clear HR1 hb2 t1 hb1
  go_wp2_with fail
  refine (hDe.out w2).mono ?_
  rintro x w3 ⟨rfl, hb3⟩
  have t3 := t2.below hb3 t2.lt
  have hb13 : Below w.heap.size w w3 := hb12.trans (hb3.mono hb12.size)
  have q0 := Blk.new w3 74 (rfC rf0)
  have hb4 : Below w3.heap.size w3 ((w3.alloc (.cells (rfC rf0) 74)).setRow w3.heap.size (rfC R)) := below_setRow (below_new1 _ _) (Nat.le_refl _) _
  have t4 := t3.below hb4 t3.lt
  have z4 : ((w3.alloc (.cells (rfC rf0) 74)).setRow w3.heap.size (rfC R)).cell? ⟨w.heap.size, 0, none⟩ = some (.int .i64 h) := (t4.cell 0).trans (va_at (trF h R) (by decide))
  have hb14 : Below w.heap.size w ((w3.alloc (.cells (rfC rf0) 74)).setRow w3.heap.size (rfC R)) := hb13.trans (hb4.mono hb13.size)
  clear hb4 hb13 hb12 hb3 t2 t3 t4
  go_wp2_with (first
    | (refine wpList_store_row (by rfl) 74 _ _ (by rfl) (w3.heap.size) (rfC R) (by rfl) (by rfl) 74 (_) (by exact q0) (tsizeRef.trans (by rw [rfC_size])) (by simp only [rfC_size]) (rfC_all _) ?_; simp only [Act.put, List.setIfInBounds_toArray, List.set_cons_zero, List.set_cons_succ])
    | fail)
  clear q0
  generalize ((w3.alloc (.cells (rfC rf0) 74)).setRow w3.heap.size (rfC R)) = w4 at *
  refine (hy w4).mono ?_
  rintro x _ ⟨rfl, rfl⟩
  go_wp2_with fail
  go_ret
  exact ⟨rfl, hb14⟩
set_option maxRecDepth 100000 in
set_option maxHeartbeats 4000000 in
theorem right_noref (h : Int) (R : Rf) (hR : R.1 < 4294967296) (hD : okD R.2) (hok : rOk R = false) (w : World) : Calls Tryz.prog 148 #[.agg (trC h R)] w fun x w' => x = .returned (.bool false) ∧ Below w.heap.size w w' := by
  have hz := zero_ref
  have hEn : Hid (∀ w, Calls Tryz.prog 174 #[.agg (rfC R)] w fun e w' => e = .returned (.string (strN (encR R) 36)) ∧ Below w.heap.size w w') := encR_any R hD
  have hDe : Hid (∀ w, Calls Tryz.prog 173 #[.string (strN (encR R) 36), .int .i64 0] w fun e w' => e = .returned (.tuple #[.agg (rfC rf0), .bool false]) ∧ Below w.heap.size w w') := fun w => by
    have h1 := decodeR_good (strN (encR R) 36) 0 (by rw [strN_size]; unfold maxLen; decide) (by rw [strN_size]; decide) w
    rw [decR_of (strN (encR R) 36) 0 R hR (fun j hj => by rw [Nat.zero_add]; exact strN_at (encR R) 36 j hj (encR_lt R hD j hj))] at h1
    simp only [hok, if_true, Bool.false_eq_true, if_false] at h1
    exact h1
  have hsz : (strN (encR R) 36).size = 36 := strN_size _ _
  have hb1 : Below w.heap.size w (w.alloc (.cells (trC h R) 76)) := below_new1 _ _
  have t1 : Blk (w.alloc (.cells (trC h R) 76)) w.heap.size 76 (trC h R) := Blk.new _ _ _
  have HR1 : Hid ((w.alloc (.cells (trC h R) 76)).rangeAt w.heap.size 1 ((List.range 33).map (rfF R.1 R.2))) := tr_range t1
  clear hok hD hR
  generalize strN (encR R) 36 = sv at *
  go_enter Tryz.func148, Tryz.ntmps148
  go_wp2_with (first
    | (refine wpList_load_blk (by rfl) 74 _ (by rfl) (w.heap.size) (1) 33 (rfF R.1 R.2) (by rfl) _ (by exact HR1.out) Tryz.underlying74 rfl tsizeRef ?_; simp only [Act.put, List.setIfInBounds_toArray, List.set_cons_zero, List.set_cons_succ])
    | fail)
  generalize (w.alloc (.cells (trC h R) 76)) = w1 at *
  refine (hEn.out w1).mono ?_
  rintro x w2 ⟨rfl, hb2⟩
  have t2 := t1.below hb2 t1.lt
  have hb12 : Below w.heap.size w w2 := hb1.trans (hb2.mono hb1.size)
  clear HR1 hb2 t1 hb1
  go_wp2_with fail
  refine (hDe.out w2).mono ?_
  rintro x w3 ⟨rfl, hb3⟩
  have t3 := t2.below hb3 t2.lt
  have hb13 : Below w.heap.size w w3 := hb12.trans (hb3.mono hb12.size)
  have q0 := Blk.new w3 74 (rfC rf0)
  have hb4 : Below w3.heap.size w3 ((w3.alloc (.cells (rfC rf0) 74)).setRow w3.heap.size (rfC rf0)) := below_setRow (below_new1 _ _) (Nat.le_refl _) _
  have t4 := t3.below hb4 t3.lt
  have z4 : ((w3.alloc (.cells (rfC rf0) 74)).setRow w3.heap.size (rfC rf0)).cell? ⟨w.heap.size, 0, none⟩ = some (.int .i64 h) := (t4.cell 0).trans (va_at (trF h R) (by decide))
  have hb14 : Below w.heap.size w ((w3.alloc (.cells (rfC rf0) 74)).setRow w3.heap.size (rfC rf0)) := hb13.trans (hb4.mono hb13.size)
  clear hb4 hb13 hb12 hb3 t2 t3 t4
  go_wp2_with (first
    | (refine wpList_store_row (by rfl) 74 _ _ (by rfl) (w3.heap.size) (rfC rf0) (by rfl) (by rfl) 74 (_) (by exact q0) (tsizeRef.trans (by rw [rfC_size])) (by simp only [rfC_size]) (rfC_all _) ?_; simp only [Act.put, List.setIfInBounds_toArray, List.set_cons_zero, List.set_cons_succ])
    | fail)
  go_ret
  exact ⟨rfl, hb14⟩
theorem tright_any (h : Int) (R : Rf) (hR : R.1 < 4294967296) (hD : okD R.2) (w : World) : Calls Tryz.prog 148 #[.agg (trC h R)] w fun x w' => x = .returned (.bool (decide (trOk h R))) ∧ Below w.heap.size w w' := by
  cases hok : rOk R with
  | false =>
    rw [decide_eq_false (fun u : trOk h R => by rw [u.1] at hok; cases hok)]
    exact right_noref h R hR hD hok w
  | true =>
    by_cases hh : 0 ≤ h ∧ h ≤ 6
    · rw [decide_eq_true (show trOk h R from ⟨hok, hh⟩)]
      obtain ⟨n, rfl⟩ : ∃ n : Nat, h = (n : Int) := ⟨h.toNat, by omega⟩
      exact right_ref _ R hR hD hok true (fun w => mayBe_yes n (by omega) w) w
    · rw [decide_eq_false (fun u : trOk h R => hh u.2)]
      exact right_ref h R hR hD hok false (fun w => mayBe_no h (by omega) w) w
set_option maxRecDepth 100000 in
set_option maxHeartbeats 4000000 in
theorem wayTo_ok (h : Int) (R : Rf) (hR : R.1 < 4294967296) (hD : okD R.2) (hok : trOk h R) (l : Int) (q : Nat) (p : Int) (hpq : p = (q : Int)) (hl : 0 ≤ l ∧ l ≤ h) (n : Nat) (hn : h - l = (n : Int)) (hp : q < 4 ^ n) (w : World) : Calls Tryz.prog 122 #[.agg (trC h R), .int .i64 l, .int .i64 p] w fun x w' => ∃ b, x = .returned (.tuple #[.slice (some ⟨b, 0, none⟩) n n, .int .i64 0]) ∧ w.heap.size ≤ b ∧ Blk w' b 3 (va n (iv .i64 (wayN n q))) ∧ Below w.heap.size w w' := by
  have hRi : Hid (∀ w, Calls Tryz.prog 148 #[.agg (trC h R)] w fun x w' => x = .returned (.bool true) ∧ Below w.heap.size w w') := fun w => by
    have := tright_any h R hR hD w
    rw [decide_eq_true hok] at this
    exact this
  have hb1 : Below w.heap.size w (w.alloc (.cells (trC h R) 76)) := below_new1 _ _
  have t1 : Blk (w.alloc (.cells (trC h R) 76)) w.heap.size 76 (trC h R) := Blk.new _ _ _
  have hl0 : ¬ l < 0 := by omega
  have d1 : decide (l < 0) = false := decide_eq_false hl0
  have hl1 : ¬ h < l := by omega
  have d2 : decide (h < l) = false := decide_eq_false hl1
  have hw1 : IntKind.i64.wrap (h - l) = h - l := by
    have := hok.2
    rw [IntKind.wrap_i64]
    omega
  have hw2 : wrap64 (h - l) = h - l := by
    rw [← IntWalk.i64_left]
    exact hw1
  obtain ⟨b1, b2, b3⟩ := hok
  subst hpq
  go_enter Tryz.func122, Tryz.ntmps122
  go_wp2_with (first
    | (refine wpList_load_rowg (by rfl) 76 _ (by rfl) (w.heap.size) (by rfl) 76 (trC h R) (0, 0) _ (by exact t1) Tryz.underlying76 (by rfl) (sizeTr.trans (by rw [trC_size])) ?_; simp only [Act.put, List.setIfInBounds_toArray, List.set_cons_zero, List.set_cons_succ])
    | fail)
  generalize (w.alloc (.cells (trC h R) 76)) = w1 at *
  refine (hRi.out w1).mono ?_
  rintro x w2 ⟨rfl, hb2⟩
  have t2 := t1.below hb2 t1.lt
  have z2 : w2.cell? ⟨w.heap.size, 0, none⟩ = some (.int .i64 h) := (t2.cell 0).trans (va_at (trF h R) (by decide))
  have hb12 : Below w.heap.size w w2 := hb1.trans (hb2.mono hb1.size)
  clear t1 t2 hb2 hb1
  go_wp2_with fail
  refine (way_ok n q (by omega) hp w2).mono ?_
  rintro x w3 ⟨rfl, b3', hb3⟩
  go_wp2_with fail
  go_ret2
  exact ⟨_, rfl, hb12.size, b3', hb12.trans (hb3.mono hb12.size)⟩
section
variable {B g N c m room i : Nat} {F : Nat → Nat} {U : Nat → Prop}
end
end Go.Proofs.YtimjggkdpmgpjaaGreatDoor

namespace Go.Proofs.YtimjggkdpmgpjaaGreatDoor
open Go Go.RowKit
set_option linter.unusedSimpArgs false
set_option linter.unusedVariables false

/-- a block of an image in the memory -/
def RngB (W : World) (b o : Nat) (f : Nat → Nat) : Prop := W.rangeAt b o ((List.range 256).map (iv .u8 f))
theorem RngB.below {w w' : World} {B b o : Nat} {f : Nat → Nat} (h : RngB w b o f) (hb : Below B w w') (hB : b < B) : RngB w' b o f := range_below h hb hB
section
variable {F : Nat → Nat} {N : Nat}
end
end Go.Proofs.YtimjggkdpmgpjaaGreatDoor

namespace Go.Proofs.YtimjggkdpmgpjaaGreatDoor
open Go Go.RowKit
theorem gr_build1 {P : Program} {ops : Array Oper} {rest : List Oper} {o : Oper} {a : Act} {w : World} {Q : Exit → Act → World → Prop} (hg : o.guard = none) (t : TypeId) (i : Nat) (x : Operand) (ho : o.op = .build t #[(i, x)]) (vx : Value) (hx : a.eval x = vx)
    (cells : Array Value) (hf : P.built t [(i, vx)] = some cells) (h : wpList P ops Q rest (a.put o.dst (.agg cells)) w) : wpList P ops Q (o :: rest) a w := by
  refine wpList_buildTo hg t _ ho o.dst rfl cells ?_ h
  have e : (Array.map (fun (x : Nat × Operand) => match x with | (i, x) => (i, a.eval x)) #[(i, x)]).toList = [(i, vx)] := by simp [hx]
  rw [e]
  exact hf
end Go.Proofs.YtimjggkdpmgpjaaGreatDoor
