/-
  No cell of these rows narrows 'for every input' (looked for: loops, veiled, ifaces, maps, wideKeys, modest, calm, conditions, laid).
  DERIVED. THE GIVEN ROWS OF THIS SEAT. 5 by the template 'for every input the law returns true; each argument reads behind the call as it read before'; 0 by the template 'total and deterministic' (their statements: YtcagcjabgceejaaTotals.lean).
  GIVEN WITH THE SEED: the statements are not yours to turn. If you find one false, say at which input.
  Laid BY PROGRAM, IN A SANDBOX (cutbox-rows.mjs): the forced cells as the released guide's own fill.sh prints them over the translation 0ebf2bc9ee3b7b3d… (all of the seat's roots in one cut). By AI agents, Wed Nov 11 2026. No macro, syntax, notation, axiom, sorry.
-/
import Derived.Test.YtcagcjabgceejaaChecked
import GoSem.Claim
import GoSem.ClaimJoined
import GoSem.ClaimMapViews
import Derived.JoinedTies
import Derived.KernelRfl
namespace Go.Proofs.Ytcagcjabgceejaa
/- THE CELL 'sum', in the pinned program and in every row, IS THE sha256 OF THE DUMP (.gsa) THAT YtcagcjabgceejaaProg.lean LOADS. Nothing in Lean hashes anything: it is a label: what it is worth is what the hold of that sum in a sandbox is worth. -/
noncomputable def Try.pinned : Pinned := { name := "ytcagcjabgceejaa", sum := "0ebf2bc9ee3b7b3da0aa5a63d19e31d0ebec90f81b32364043811b651a9ed4f9", checked := Try.checked }
namespace Rows
def none {H : Type} : Left H := { results := [], args := [] }

/-- 'signetlaw02.MixQuarters': WHATEVER THE INPUT: true; the input reads as it did. -/
def mixQuartersSpec : ChangeSpec := { name := "mixQuarters", fn := fun _ => fun
  | [d] => { results := [.lit (.bool true)], args := [d] }
  | _ => none }
def mixQuartersRow : OpenClaim := { program := "ytcagcjabgceejaa", sum := "0ebf2bc9ee3b7b3da0aa5a63d19e31d0ebec90f81b32364043811b651a9ed4f9", func := "signet/signetlaw02.MixQuarters", spec := "mixQuarters", apart := false }
def MixQuartersSaid : Prop := mixQuartersRow.holds Try.pinned (OpenSpec.ofChange mixQuartersSpec)

/-- ITS FALSE NEIGHBOUR: 'it returns false'. Refute it at one input. -/
def mixQuartersWrong : ChangeSpec := { name := "mixQuarters", fn := fun _ => fun
  | [d] => { results := [.lit (.bool false)], args := [d] }
  | _ => none }
def MixQuartersWrongFalsely : Prop := mixQuartersRow.holds Try.pinned (OpenSpec.ofChange mixQuartersWrong)

/-- 'signetlaw02.MixRounds': WHATEVER THE INPUT: true; the input reads as it did. -/
def mixRoundsSpec : ChangeSpec := { name := "mixRounds", fn := fun _ => fun
  | [d1, d2, d3] => { results := [.lit (.bool true)], args := [d1, d2, d3] }
  | _ => none }
def mixRoundsRow : OpenClaim := { program := "ytcagcjabgceejaa", sum := "0ebf2bc9ee3b7b3da0aa5a63d19e31d0ebec90f81b32364043811b651a9ed4f9", func := "signet/signetlaw02.MixRounds", spec := "mixRounds", apart := false }
def MixRoundsSaid : Prop := mixRoundsRow.holds Try.pinned (OpenSpec.ofChange mixRoundsSpec)

/-- ITS FALSE NEIGHBOUR: 'it returns false'. Refute it at one input. -/
def mixRoundsWrong : ChangeSpec := { name := "mixRounds", fn := fun _ => fun
  | [d1, d2, d3] => { results := [.lit (.bool false)], args := [d1, d2, d3] }
  | _ => none }
def MixRoundsWrongFalsely : Prop := mixRoundsRow.holds Try.pinned (OpenSpec.ofChange mixRoundsWrong)

/-- 'signetlaw02.MixBack': WHATEVER THE INPUT: true; the input reads as it did. -/
def mixBackSpec : ChangeSpec := { name := "mixBack", fn := fun _ => fun
  | [d1, d2, d3] => { results := [.lit (.bool true)], args := [d1, d2, d3] }
  | _ => none }
def mixBackRow : OpenClaim := { program := "ytcagcjabgceejaa", sum := "0ebf2bc9ee3b7b3da0aa5a63d19e31d0ebec90f81b32364043811b651a9ed4f9", func := "signet/signetlaw02.MixBack", spec := "mixBack", apart := false }
def MixBackSaid : Prop := mixBackRow.holds Try.pinned (OpenSpec.ofChange mixBackSpec)

/-- ITS FALSE NEIGHBOUR: 'it returns false'. Refute it at one input. -/
def mixBackWrong : ChangeSpec := { name := "mixBack", fn := fun _ => fun
  | [d1, d2, d3] => { results := [.lit (.bool false)], args := [d1, d2, d3] }
  | _ => none }
def MixBackWrongFalsely : Prop := mixBackRow.holds Try.pinned (OpenSpec.ofChange mixBackWrong)

/-- 'signetlaw02.MixTrails': WHATEVER THE INPUT: true; the input reads as it did. -/
def mixTrailsSpec : ChangeSpec := { name := "mixTrails", fn := fun _ => fun
  | [d1, d2, d3] => { results := [.lit (.bool true)], args := [d1, d2, d3] }
  | _ => none }
def mixTrailsRow : OpenClaim := { program := "ytcagcjabgceejaa", sum := "0ebf2bc9ee3b7b3da0aa5a63d19e31d0ebec90f81b32364043811b651a9ed4f9", func := "signet/signetlaw02.MixTrails", spec := "mixTrails", apart := false }
def MixTrailsSaid : Prop := mixTrailsRow.holds Try.pinned (OpenSpec.ofChange mixTrailsSpec)

/-- ITS FALSE NEIGHBOUR: 'it returns false'. Refute it at one input. -/
def mixTrailsWrong : ChangeSpec := { name := "mixTrails", fn := fun _ => fun
  | [d1, d2, d3] => { results := [.lit (.bool false)], args := [d1, d2, d3] }
  | _ => none }
def MixTrailsWrongFalsely : Prop := mixTrailsRow.holds Try.pinned (OpenSpec.ofChange mixTrailsWrong)

/-- 'signetlaw02.MixApart': WHATEVER THE INPUT: true; the input reads as it did. -/
def mixApartSpec : ChangeSpec := { name := "mixApart", fn := fun _ => fun
  | [d1, d2, d3] => { results := [.lit (.bool true)], args := [d1, d2, d3] }
  | _ => none }
def mixApartRow : OpenClaim := { program := "ytcagcjabgceejaa", sum := "0ebf2bc9ee3b7b3da0aa5a63d19e31d0ebec90f81b32364043811b651a9ed4f9", func := "signet/signetlaw02.MixApart", spec := "mixApart", apart := false }
def MixApartSaid : Prop := mixApartRow.holds Try.pinned (OpenSpec.ofChange mixApartSpec)

/-- ITS FALSE NEIGHBOUR: 'it returns false'. Refute it at one input. -/
def mixApartWrong : ChangeSpec := { name := "mixApart", fn := fun _ => fun
  | [d1, d2, d3] => { results := [.lit (.bool false)], args := [d1, d2, d3] }
  | _ => none }
def MixApartWrongFalsely : Prop := mixApartRow.holds Try.pinned (OpenSpec.ofChange mixApartWrong)

/- THE SECOND FORM. 'bulk': how many values and letters a reading holds, each counted each time it is reached (what is shared counts as often as it is met; a slice's spare places count too). A statement '..UptoSaid' is the law's where the arguments, and the package variables that the reading takes, are together of bulk at most 1048576: NARROWER than '..Said'. Prove '..Said' where nothing that the law and all that it calls make is longer than what came in: it says more and counts as full. Else prove '..UptoSaid'. A law counts once. -/
mutual
def uptoBulk {H : Type} : DataW H → Nat
  | .lit (.string bytes) => bytes.length + 1
  | .lit _ => 1
  | .nil => 1
  | .ptr d => uptoBulk d + 1
  | .slice elems spare => uptoBulkAll elems + uptoBulkAll spare + 1
  | .agg parts => uptoBulkAll parts + 1
  | .iface _ d => uptoBulk d + 1
  | .map entries => uptoBulkEntries entries + 1
  | .held _ => 1
def uptoBulkAll {H : Type} : List (DataW H) → Nat
  | [] => 0
  | d :: r => uptoBulk d + uptoBulkAll r
def uptoBulkEntries {H : Type} : List (Lit × DataW H) → Nat
  | [] => 0
  | x :: r => uptoBulkEntry x + uptoBulkEntries r
def uptoBulkEntry {H : Type} : Lit × DataW H → Nat
  | (.string bytes, d) => bytes.length + uptoBulk d + 1
  | (_, d) => uptoBulk d + 1
 end
def uptoSmall : (H : Type) → List (DataW H) → Bool := fun _ ds => decide (uptoBulkAll ds ≤ 1048576)
def OpenSpec.upto (s : _root_.Go.ChangeSpec) : _root_.Go.OpenSpec := { _root_.Go.OpenSpec.ofChange s with cond := some uptoSmall }

/-- 'signetlaw02.MixQuarters', WHERE WHAT IT READS IS OF BULK AT MOST 1048576: true; the input reads as it did. -/
def mixQuartersUptoRow : OpenClaim := { program := "ytcagcjabgceejaa", sum := "0ebf2bc9ee3b7b3da0aa5a63d19e31d0ebec90f81b32364043811b651a9ed4f9", func := "signet/signetlaw02.MixQuarters", spec := "mixQuarters", apart := false, narrowed := true }
def MixQuartersUptoSaid : Prop := mixQuartersUptoRow.holds Try.pinned (OpenSpec.upto mixQuartersSpec)

/-- 'signetlaw02.MixRounds', WHERE WHAT IT READS IS OF BULK AT MOST 1048576: true; the input reads as it did. -/
def mixRoundsUptoRow : OpenClaim := { program := "ytcagcjabgceejaa", sum := "0ebf2bc9ee3b7b3da0aa5a63d19e31d0ebec90f81b32364043811b651a9ed4f9", func := "signet/signetlaw02.MixRounds", spec := "mixRounds", apart := false, narrowed := true }
def MixRoundsUptoSaid : Prop := mixRoundsUptoRow.holds Try.pinned (OpenSpec.upto mixRoundsSpec)

/-- 'signetlaw02.MixBack', WHERE WHAT IT READS IS OF BULK AT MOST 1048576: true; the input reads as it did. -/
def mixBackUptoRow : OpenClaim := { program := "ytcagcjabgceejaa", sum := "0ebf2bc9ee3b7b3da0aa5a63d19e31d0ebec90f81b32364043811b651a9ed4f9", func := "signet/signetlaw02.MixBack", spec := "mixBack", apart := false, narrowed := true }
def MixBackUptoSaid : Prop := mixBackUptoRow.holds Try.pinned (OpenSpec.upto mixBackSpec)

/-- 'signetlaw02.MixTrails', WHERE WHAT IT READS IS OF BULK AT MOST 1048576: true; the input reads as it did. -/
def mixTrailsUptoRow : OpenClaim := { program := "ytcagcjabgceejaa", sum := "0ebf2bc9ee3b7b3da0aa5a63d19e31d0ebec90f81b32364043811b651a9ed4f9", func := "signet/signetlaw02.MixTrails", spec := "mixTrails", apart := false, narrowed := true }
def MixTrailsUptoSaid : Prop := mixTrailsUptoRow.holds Try.pinned (OpenSpec.upto mixTrailsSpec)

/-- 'signetlaw02.MixApart', WHERE WHAT IT READS IS OF BULK AT MOST 1048576: true; the input reads as it did. -/
def mixApartUptoRow : OpenClaim := { program := "ytcagcjabgceejaa", sum := "0ebf2bc9ee3b7b3da0aa5a63d19e31d0ebec90f81b32364043811b651a9ed4f9", func := "signet/signetlaw02.MixApart", spec := "mixApart", apart := false, narrowed := true }
def MixApartUptoSaid : Prop := mixApartUptoRow.holds Try.pinned (OpenSpec.upto mixApartSpec)

end Rows
end Go.Proofs.Ytcagcjabgceejaa
