/-
  No cell of these rows narrows 'for every input' (looked for: loops, veiled, ifaces, maps, wideKeys, modest, calm, conditions, laid).
  DERIVED. THE GIVEN ROWS OF THIS SEAT. 5 by the template 'for every input the law returns true; each argument reads behind the call as it read before'; 0 by the template 'total and deterministic' (their statements: YtlmbokfgogkbmaaTotals.lean).
  GIVEN WITH THE SEED: the statements are not yours to turn. If you find one false, say at which input.
  Laid BY PROGRAM, IN A SANDBOX (cutbox-rows.mjs): the forced cells as the released guide's own fill.sh prints them over the translation ec1fb05db0826fd6… (all of the seat's roots in one cut). By AI agents, Wed Nov 11 2026. No macro, syntax, notation, axiom, sorry.
-/
import Derived.Test.YtlmbokfgogkbmaaChecked
import GoSem.Claim
import GoSem.ClaimJoined
import GoSem.ClaimMapViews
import Derived.JoinedTies
import Derived.KernelRfl
namespace Go.Proofs.Ytlmbokfgogkbmaa
/- THE CELL 'sum', in the pinned program and in every row, IS THE sha256 OF THE DUMP (.gsa) THAT YtlmbokfgogkbmaaProg.lean LOADS. Nothing in Lean hashes anything: it is a label: what it is worth is what the hold of that sum in a sandbox is worth. -/
noncomputable def Try.pinned : Pinned := { name := "ytlmbokfgogkbmaa", sum := "ec1fb05db0826fd6e23f47515eda1941e031600c06697c3dec0ab30171372b58", checked := Try.checked }
namespace Rows
def none {H : Type} : Left H := { results := [], args := [] }

/-- 'signetlaw06.SlotPlays': WHATEVER THE INPUT: true; the input reads as it did. -/
def slotPlaysSpec : ChangeSpec := { name := "slotPlays", fn := fun _ => fun
  | [d1, d2] => { results := [.lit (.bool true)], args := [d1, d2] }
  | _ => none }
def slotPlaysRow : OpenClaim := { program := "ytlmbokfgogkbmaa", sum := "ec1fb05db0826fd6e23f47515eda1941e031600c06697c3dec0ab30171372b58", func := "signet/signetlaw06.SlotPlays", spec := "slotPlays", unfollowed := true, recurses := true, plainKeys := false, apart := false }
def SlotPlaysSaid : Prop := slotPlaysRow.holds Try.pinned (OpenSpec.ofChange slotPlaysSpec)

/-- ITS FALSE NEIGHBOUR: 'it returns false'. Refute it at one input. -/
def slotPlaysWrong : ChangeSpec := { name := "slotPlays", fn := fun _ => fun
  | [d1, d2] => { results := [.lit (.bool false)], args := [d1, d2] }
  | _ => none }
def SlotPlaysWrongFalsely : Prop := slotPlaysRow.holds Try.pinned (OpenSpec.ofChange slotPlaysWrong)

/-- 'signetlaw06.SlotBytes': WHATEVER THE INPUT: true; the input reads as it did. -/
def slotBytesSpec : ChangeSpec := { name := "slotBytes", fn := fun _ => fun
  | [d1, d2, d3] => { results := [.lit (.bool true)], args := [d1, d2, d3] }
  | _ => none }
def slotBytesRow : OpenClaim := { program := "ytlmbokfgogkbmaa", sum := "ec1fb05db0826fd6e23f47515eda1941e031600c06697c3dec0ab30171372b58", func := "signet/signetlaw06.SlotBytes", spec := "slotBytes", plainKeys := false, apart := false }
def SlotBytesSaid : Prop := slotBytesRow.holds Try.pinned (OpenSpec.ofChange slotBytesSpec)

/-- ITS FALSE NEIGHBOUR: 'it returns false'. Refute it at one input. -/
def slotBytesWrong : ChangeSpec := { name := "slotBytes", fn := fun _ => fun
  | [d1, d2, d3] => { results := [.lit (.bool false)], args := [d1, d2, d3] }
  | _ => none }
def SlotBytesWrongFalsely : Prop := slotBytesRow.holds Try.pinned (OpenSpec.ofChange slotBytesWrong)

/-- 'signetlaw06.SlotGoes': WHATEVER THE INPUT: true; the input reads as it did. -/
def slotGoesSpec : ChangeSpec := { name := "slotGoes", fn := fun _ => fun
  | [d1, d2, d3] => { results := [.lit (.bool true)], args := [d1, d2, d3] }
  | _ => none }
def slotGoesRow : OpenClaim := { program := "ytlmbokfgogkbmaa", sum := "ec1fb05db0826fd6e23f47515eda1941e031600c06697c3dec0ab30171372b58", func := "signet/signetlaw06.SlotGoes", spec := "slotGoes", plainKeys := false, apart := false }
def SlotGoesSaid : Prop := slotGoesRow.holds Try.pinned (OpenSpec.ofChange slotGoesSpec)

/-- ITS FALSE NEIGHBOUR: 'it returns false'. Refute it at one input. -/
def slotGoesWrong : ChangeSpec := { name := "slotGoes", fn := fun _ => fun
  | [d1, d2, d3] => { results := [.lit (.bool false)], args := [d1, d2, d3] }
  | _ => none }
def SlotGoesWrongFalsely : Prop := slotGoesRow.holds Try.pinned (OpenSpec.ofChange slotGoesWrong)

/-- 'signetlaw06.SlotNil': WHATEVER THE INPUT: true; the input reads as it did. -/
def slotNilSpec : ChangeSpec := { name := "slotNil", fn := fun _ => fun
  | [d] => { results := [.lit (.bool true)], args := [d] }
  | _ => none }
def slotNilRow : OpenClaim := { program := "ytlmbokfgogkbmaa", sum := "ec1fb05db0826fd6e23f47515eda1941e031600c06697c3dec0ab30171372b58", func := "signet/signetlaw06.SlotNil", spec := "slotNil", plainKeys := false, apart := false }
def SlotNilSaid : Prop := slotNilRow.holds Try.pinned (OpenSpec.ofChange slotNilSpec)

/-- ITS FALSE NEIGHBOUR: 'it returns false'. Refute it at one input. -/
def slotNilWrong : ChangeSpec := { name := "slotNil", fn := fun _ => fun
  | [d] => { results := [.lit (.bool false)], args := [d] }
  | _ => none }
def SlotNilWrongFalsely : Prop := slotNilRow.holds Try.pinned (OpenSpec.ofChange slotNilWrong)

/-- 'signetlaw06.SlotOlder': WHATEVER THE INPUT: true; the input reads as it did. -/
def slotOlderSpec : ChangeSpec := { name := "slotOlder", fn := fun _ => fun
  | [d1, d2, d3] => { results := [.lit (.bool true)], args := [d1, d2, d3] }
  | _ => none }
def slotOlderRow : OpenClaim := { program := "ytlmbokfgogkbmaa", sum := "ec1fb05db0826fd6e23f47515eda1941e031600c06697c3dec0ab30171372b58", func := "signet/signetlaw06.SlotOlder", spec := "slotOlder", plainKeys := false, apart := false }
def SlotOlderSaid : Prop := slotOlderRow.holds Try.pinned (OpenSpec.ofChange slotOlderSpec)

/-- ITS FALSE NEIGHBOUR: 'it returns false'. Refute it at one input. -/
def slotOlderWrong : ChangeSpec := { name := "slotOlder", fn := fun _ => fun
  | [d1, d2, d3] => { results := [.lit (.bool false)], args := [d1, d2, d3] }
  | _ => none }
def SlotOlderWrongFalsely : Prop := slotOlderRow.holds Try.pinned (OpenSpec.ofChange slotOlderWrong)

/- THE SECOND FORM. 'bulk': how many values and letters a reading holds, each counted each time it is reached (what is shared counts as often as it is met; a slice's spare places count too). A statement '..UptoSaid' is the law's where the arguments, and the package variables that the reading takes, are together of bulk at most 1048576: NARROWER than '..Said'. Prove '..Said' where nothing that the law and all that it calls make is longer than what came in: it says more and counts as full. Else prove '..UptoSaid'. A law counts once. -/
mutual
def uptoBulk {H : Type} : DataW H → Nat
  | .lit (.string bytes) => bytes.length + 1
  | .lit _ => 1
  | .nil => 1
  | .ptr d => uptoBulk d + 1
  | .slice elems spare => uptoBulkAll elems + uptoBulkAll spare + 1
  | .agg parts => uptoBulkAll parts + 1
  | .iface _ d => uptoBulk d + 1
  | .map entries => uptoBulkEntries entries + 1
  | .held _ => 1
def uptoBulkAll {H : Type} : List (DataW H) → Nat
  | [] => 0
  | d :: r => uptoBulk d + uptoBulkAll r
def uptoBulkEntries {H : Type} : List (Lit × DataW H) → Nat
  | [] => 0
  | x :: r => uptoBulkEntry x + uptoBulkEntries r
def uptoBulkEntry {H : Type} : Lit × DataW H → Nat
  | (.string bytes, d) => bytes.length + uptoBulk d + 1
  | (_, d) => uptoBulk d + 1
 end
def uptoSmall : (H : Type) → List (DataW H) → Bool := fun _ ds => decide (uptoBulkAll ds ≤ 1048576)
def OpenSpec.upto (s : _root_.Go.ChangeSpec) : _root_.Go.OpenSpec := { _root_.Go.OpenSpec.ofChange s with cond := some uptoSmall }

/-- 'signetlaw06.SlotPlays', WHERE WHAT IT READS IS OF BULK AT MOST 1048576: true; the input reads as it did. -/
def slotPlaysUptoRow : OpenClaim := { program := "ytlmbokfgogkbmaa", sum := "ec1fb05db0826fd6e23f47515eda1941e031600c06697c3dec0ab30171372b58", func := "signet/signetlaw06.SlotPlays", spec := "slotPlays", unfollowed := true, recurses := true, plainKeys := false, apart := false, narrowed := true }
def SlotPlaysUptoSaid : Prop := slotPlaysUptoRow.holds Try.pinned (OpenSpec.upto slotPlaysSpec)

/-- 'signetlaw06.SlotBytes', WHERE WHAT IT READS IS OF BULK AT MOST 1048576: true; the input reads as it did. -/
def slotBytesUptoRow : OpenClaim := { program := "ytlmbokfgogkbmaa", sum := "ec1fb05db0826fd6e23f47515eda1941e031600c06697c3dec0ab30171372b58", func := "signet/signetlaw06.SlotBytes", spec := "slotBytes", plainKeys := false, apart := false, narrowed := true }
def SlotBytesUptoSaid : Prop := slotBytesUptoRow.holds Try.pinned (OpenSpec.upto slotBytesSpec)

/-- 'signetlaw06.SlotGoes', WHERE WHAT IT READS IS OF BULK AT MOST 1048576: true; the input reads as it did. -/
def slotGoesUptoRow : OpenClaim := { program := "ytlmbokfgogkbmaa", sum := "ec1fb05db0826fd6e23f47515eda1941e031600c06697c3dec0ab30171372b58", func := "signet/signetlaw06.SlotGoes", spec := "slotGoes", plainKeys := false, apart := false, narrowed := true }
def SlotGoesUptoSaid : Prop := slotGoesUptoRow.holds Try.pinned (OpenSpec.upto slotGoesSpec)

/-- 'signetlaw06.SlotNil', WHERE WHAT IT READS IS OF BULK AT MOST 1048576: true; the input reads as it did. -/
def slotNilUptoRow : OpenClaim := { program := "ytlmbokfgogkbmaa", sum := "ec1fb05db0826fd6e23f47515eda1941e031600c06697c3dec0ab30171372b58", func := "signet/signetlaw06.SlotNil", spec := "slotNil", plainKeys := false, apart := false, narrowed := true }
def SlotNilUptoSaid : Prop := slotNilUptoRow.holds Try.pinned (OpenSpec.upto slotNilSpec)

/-- 'signetlaw06.SlotOlder', WHERE WHAT IT READS IS OF BULK AT MOST 1048576: true; the input reads as it did. -/
def slotOlderUptoRow : OpenClaim := { program := "ytlmbokfgogkbmaa", sum := "ec1fb05db0826fd6e23f47515eda1941e031600c06697c3dec0ab30171372b58", func := "signet/signetlaw06.SlotOlder", spec := "slotOlder", plainKeys := false, apart := false, narrowed := true }
def SlotOlderUptoSaid : Prop := slotOlderUptoRow.holds Try.pinned (OpenSpec.upto slotOlderSpec)

end Rows
end Go.Proofs.Ytlmbokfgogkbmaa
