/-
  No cell of these rows narrows 'for every input' (looked for: loops, veiled, ifaces, maps, wideKeys, modest, calm, conditions, laid).
  DERIVED. THE GIVEN ROWS OF THIS SEAT. 8 by the template 'for every input the law returns true; each argument reads behind the call as it read before'; 0 by the template 'total and deterministic' (their statements: YtjhabngibbmpbaaGreatTotals.lean).
  GIVEN WITH THE SEED: the statements are not yours to turn. If you find one false, say at which input.
  Laid BY PROGRAM, IN A SANDBOX (cutbox-rows.mjs): the forced cells as the released guide's own fill.sh prints them over the translation 22457ab414e1e73d… (all of the seat's roots in one cut). By AI agents, Wed Nov 11 2026. No macro, syntax, notation, axiom, sorry.
-/
import Derived.Test.YtjhabngibbmpbaaGreatChecked
import GoSem.Claim
import GoSem.ClaimJoined
import GoSem.ClaimMapViews
import Derived.JoinedTies
import Derived.KernelRfl
namespace Go.Proofs.YtjhabngibbmpbaaGreat
/- THE CELL 'sum', in the pinned program and in every row, IS THE sha256 OF THE DUMP (.gsa) THAT YtjhabngibbmpbaaGreatProg.lean LOADS. Nothing in Lean hashes anything: it is a label: what it is worth is what the hold of that sum in a sandbox is worth. -/
noncomputable def Tryz.pinned : Pinned := { name := "ytjhabngibbmpbaagreat", sum := "22457ab414e1e73d258f0f2550e29a69c4327b692ad0869077dc507ad10f34ec", checked := Tryz.checked }
namespace Rows
def none {H : Type} : Left H := { results := [], args := [] }

/-- 'signetlaw09.TreeLeaves': WHATEVER THE INPUT: true; the input reads as it did. -/
def treeLeavesSpec : ChangeSpec := { name := "treeLeaves", fn := fun _ => fun
  | [d1, d2] => { results := [.lit (.bool true)], args := [d1, d2] }
  | _ => none }
def treeLeavesRow : OpenClaim := { program := "ytjhabngibbmpbaagreat", sum := "22457ab414e1e73d258f0f2550e29a69c4327b692ad0869077dc507ad10f34ec", func := "signet/signetlaw09.TreeLeaves", spec := "treeLeaves", unfollowed := true, recurses := true, plainKeys := false, apart := false }
def TreeLeavesSaid : Prop := treeLeavesRow.holds Tryz.pinned (OpenSpec.ofChange treeLeavesSpec)

/-- ITS FALSE NEIGHBOUR: 'it returns false'. Refute it at one input. -/
def treeLeavesWrong : ChangeSpec := { name := "treeLeaves", fn := fun _ => fun
  | [d1, d2] => { results := [.lit (.bool false)], args := [d1, d2] }
  | _ => none }
def TreeLeavesWrongFalsely : Prop := treeLeavesRow.holds Tryz.pinned (OpenSpec.ofChange treeLeavesWrong)

/-- 'signetlaw09.TreeRefs': WHATEVER THE INPUT: true; the input reads as it did. -/
def treeRefsSpec : ChangeSpec := { name := "treeRefs", fn := fun _ => fun
  | [d1, d2, d3] => { results := [.lit (.bool true)], args := [d1, d2, d3] }
  | _ => none }
def treeRefsRow : OpenClaim := { program := "ytjhabngibbmpbaagreat", sum := "22457ab414e1e73d258f0f2550e29a69c4327b692ad0869077dc507ad10f34ec", func := "signet/signetlaw09.TreeRefs", spec := "treeRefs", unfollowed := true, recurses := true, plainKeys := false, apart := false }
def TreeRefsSaid : Prop := treeRefsRow.holds Tryz.pinned (OpenSpec.ofChange treeRefsSpec)

/-- ITS FALSE NEIGHBOUR: 'it returns false'. Refute it at one input. -/
def treeRefsWrong : ChangeSpec := { name := "treeRefs", fn := fun _ => fun
  | [d1, d2, d3] => { results := [.lit (.bool false)], args := [d1, d2, d3] }
  | _ => none }
def TreeRefsWrongFalsely : Prop := treeRefsRow.holds Tryz.pinned (OpenSpec.ofChange treeRefsWrong)

/-- 'signetlaw09.TreeRanges': WHATEVER THE INPUT: true; the input reads as it did. -/
def treeRangesSpec : ChangeSpec := { name := "treeRanges", fn := fun _ => fun
  | [d1, d2, d3] => { results := [.lit (.bool true)], args := [d1, d2, d3] }
  | _ => none }
def treeRangesRow : OpenClaim := { program := "ytjhabngibbmpbaagreat", sum := "22457ab414e1e73d258f0f2550e29a69c4327b692ad0869077dc507ad10f34ec", func := "signet/signetlaw09.TreeRanges", spec := "treeRanges", unfollowed := true, recurses := true, plainKeys := false, apart := false }
def TreeRangesSaid : Prop := treeRangesRow.holds Tryz.pinned (OpenSpec.ofChange treeRangesSpec)

/-- ITS FALSE NEIGHBOUR: 'it returns false'. Refute it at one input. -/
def treeRangesWrong : ChangeSpec := { name := "treeRanges", fn := fun _ => fun
  | [d1, d2, d3] => { results := [.lit (.bool false)], args := [d1, d2, d3] }
  | _ => none }
def TreeRangesWrongFalsely : Prop := treeRangesRow.holds Tryz.pinned (OpenSpec.ofChange treeRangesWrong)

/-- 'signetlaw09.TreeAll': WHATEVER THE INPUT: true; the input reads as it did. -/
def treeAllSpec : ChangeSpec := { name := "treeAll", fn := fun _ => fun
  | [d] => { results := [.lit (.bool true)], args := [d] }
  | _ => none }
def treeAllRow : OpenClaim := { program := "ytjhabngibbmpbaagreat", sum := "22457ab414e1e73d258f0f2550e29a69c4327b692ad0869077dc507ad10f34ec", func := "signet/signetlaw09.TreeAll", spec := "treeAll", unfollowed := true, recurses := true, plainKeys := false, apart := false }
def TreeAllSaid : Prop := treeAllRow.holds Tryz.pinned (OpenSpec.ofChange treeAllSpec)

/-- ITS FALSE NEIGHBOUR: 'it returns false'. Refute it at one input. -/
def treeAllWrong : ChangeSpec := { name := "treeAll", fn := fun _ => fun
  | [d] => { results := [.lit (.bool false)], args := [d] }
  | _ => none }
def TreeAllWrongFalsely : Prop := treeAllRow.holds Tryz.pinned (OpenSpec.ofChange treeAllWrong)

/-- 'signetlaw09.TreeEach': WHATEVER THE INPUT: true; the input reads as it did. -/
def treeEachSpec : ChangeSpec := { name := "treeEach", fn := fun _ => fun
  | [d1, d2] => { results := [.lit (.bool true)], args := [d1, d2] }
  | _ => none }
def treeEachRow : OpenClaim := { program := "ytjhabngibbmpbaagreat", sum := "22457ab414e1e73d258f0f2550e29a69c4327b692ad0869077dc507ad10f34ec", func := "signet/signetlaw09.TreeEach", spec := "treeEach", unfollowed := true, recurses := true, plainKeys := false, apart := false }
def TreeEachSaid : Prop := treeEachRow.holds Tryz.pinned (OpenSpec.ofChange treeEachSpec)

/-- ITS FALSE NEIGHBOUR: 'it returns false'. Refute it at one input. -/
def treeEachWrong : ChangeSpec := { name := "treeEach", fn := fun _ => fun
  | [d1, d2] => { results := [.lit (.bool false)], args := [d1, d2] }
  | _ => none }
def TreeEachWrongFalsely : Prop := treeEachRow.holds Tryz.pinned (OpenSpec.ofChange treeEachWrong)

/-- 'signetlaw09.TreeQuiet': WHATEVER THE INPUT: true; the input reads as it did. -/
def treeQuietSpec : ChangeSpec := { name := "treeQuiet", fn := fun _ => fun
  | [d] => { results := [.lit (.bool true)], args := [d] }
  | _ => none }
def treeQuietRow : OpenClaim := { program := "ytjhabngibbmpbaagreat", sum := "22457ab414e1e73d258f0f2550e29a69c4327b692ad0869077dc507ad10f34ec", func := "signet/signetlaw09.TreeQuiet", spec := "treeQuiet", unfollowed := true, recurses := true, plainKeys := false, apart := false }
def TreeQuietSaid : Prop := treeQuietRow.holds Tryz.pinned (OpenSpec.ofChange treeQuietSpec)

/-- ITS FALSE NEIGHBOUR: 'it returns false'. Refute it at one input. -/
def treeQuietWrong : ChangeSpec := { name := "treeQuiet", fn := fun _ => fun
  | [d] => { results := [.lit (.bool false)], args := [d] }
  | _ => none }
def TreeQuietWrongFalsely : Prop := treeQuietRow.holds Tryz.pinned (OpenSpec.ofChange treeQuietWrong)

/-- 'signetlaw09.TreeDiffs': WHATEVER THE INPUT: true; the input reads as it did. -/
def treeDiffsSpec : ChangeSpec := { name := "treeDiffs", fn := fun _ => fun
  | [d1, d2, d3] => { results := [.lit (.bool true)], args := [d1, d2, d3] }
  | _ => none }
def treeDiffsRow : OpenClaim := { program := "ytjhabngibbmpbaagreat", sum := "22457ab414e1e73d258f0f2550e29a69c4327b692ad0869077dc507ad10f34ec", func := "signet/signetlaw09.TreeDiffs", spec := "treeDiffs", unfollowed := true, recurses := true, plainKeys := false, apart := false }
def TreeDiffsSaid : Prop := treeDiffsRow.holds Tryz.pinned (OpenSpec.ofChange treeDiffsSpec)

/-- ITS FALSE NEIGHBOUR: 'it returns false'. Refute it at one input. -/
def treeDiffsWrong : ChangeSpec := { name := "treeDiffs", fn := fun _ => fun
  | [d1, d2, d3] => { results := [.lit (.bool false)], args := [d1, d2, d3] }
  | _ => none }
def TreeDiffsWrongFalsely : Prop := treeDiffsRow.holds Tryz.pinned (OpenSpec.ofChange treeDiffsWrong)

/-- 'signetlaw09.TreeWrong': WHATEVER THE INPUT: true; the input reads as it did. -/
def treeWrongSpec : ChangeSpec := { name := "treeWrong", fn := fun _ => fun
  | [d1, d2] => { results := [.lit (.bool true)], args := [d1, d2] }
  | _ => none }
def treeWrongRow : OpenClaim := { program := "ytjhabngibbmpbaagreat", sum := "22457ab414e1e73d258f0f2550e29a69c4327b692ad0869077dc507ad10f34ec", func := "signet/signetlaw09.TreeWrong", spec := "treeWrong", unfollowed := true, recurses := true, plainKeys := false, apart := false }
def TreeWrongSaid : Prop := treeWrongRow.holds Tryz.pinned (OpenSpec.ofChange treeWrongSpec)

/-- ITS FALSE NEIGHBOUR: 'it returns false'. Refute it at one input. -/
def treeWrongWrong : ChangeSpec := { name := "treeWrong", fn := fun _ => fun
  | [d1, d2] => { results := [.lit (.bool false)], args := [d1, d2] }
  | _ => none }
def TreeWrongWrongFalsely : Prop := treeWrongRow.holds Tryz.pinned (OpenSpec.ofChange treeWrongWrong)

/- THE SECOND FORM. 'bulk': how many values and letters a reading holds, each counted each time it is reached (what is shared counts as often as it is met; a slice's spare places count too). A statement '..UptoSaid' is the law's where the arguments, and the package variables that the reading takes, are together of bulk at most 1048576: NARROWER than '..Said'. Prove '..Said' where nothing that the law and all that it calls make is longer than what came in: it says more and counts as full. Else prove '..UptoSaid'. A law counts once. -/
mutual
def uptoBulk {H : Type} : DataW H → Nat
  | .lit (.string bytes) => bytes.length + 1
  | .lit _ => 1
  | .nil => 1
  | .ptr d => uptoBulk d + 1
  | .slice elems spare => uptoBulkAll elems + uptoBulkAll spare + 1
  | .agg parts => uptoBulkAll parts + 1
  | .iface _ d => uptoBulk d + 1
  | .map entries => uptoBulkEntries entries + 1
  | .held _ => 1
def uptoBulkAll {H : Type} : List (DataW H) → Nat
  | [] => 0
  | d :: r => uptoBulk d + uptoBulkAll r
def uptoBulkEntries {H : Type} : List (Lit × DataW H) → Nat
  | [] => 0
  | x :: r => uptoBulkEntry x + uptoBulkEntries r
def uptoBulkEntry {H : Type} : Lit × DataW H → Nat
  | (.string bytes, d) => bytes.length + uptoBulk d + 1
  | (_, d) => uptoBulk d + 1
 end
def uptoSmall : (H : Type) → List (DataW H) → Bool := fun _ ds => decide (uptoBulkAll ds ≤ 1048576)
def OpenSpec.upto (s : _root_.Go.ChangeSpec) : _root_.Go.OpenSpec := { _root_.Go.OpenSpec.ofChange s with cond := some uptoSmall }

/-- 'signetlaw09.TreeLeaves', WHERE WHAT IT READS IS OF BULK AT MOST 1048576: true; the input reads as it did. -/
def treeLeavesUptoRow : OpenClaim := { program := "ytjhabngibbmpbaagreat", sum := "22457ab414e1e73d258f0f2550e29a69c4327b692ad0869077dc507ad10f34ec", func := "signet/signetlaw09.TreeLeaves", spec := "treeLeaves", unfollowed := true, recurses := true, plainKeys := false, apart := false, narrowed := true }
def TreeLeavesUptoSaid : Prop := treeLeavesUptoRow.holds Tryz.pinned (OpenSpec.upto treeLeavesSpec)

/-- 'signetlaw09.TreeRefs', WHERE WHAT IT READS IS OF BULK AT MOST 1048576: true; the input reads as it did. -/
def treeRefsUptoRow : OpenClaim := { program := "ytjhabngibbmpbaagreat", sum := "22457ab414e1e73d258f0f2550e29a69c4327b692ad0869077dc507ad10f34ec", func := "signet/signetlaw09.TreeRefs", spec := "treeRefs", unfollowed := true, recurses := true, plainKeys := false, apart := false, narrowed := true }
def TreeRefsUptoSaid : Prop := treeRefsUptoRow.holds Tryz.pinned (OpenSpec.upto treeRefsSpec)

/-- 'signetlaw09.TreeRanges', WHERE WHAT IT READS IS OF BULK AT MOST 1048576: true; the input reads as it did. -/
def treeRangesUptoRow : OpenClaim := { program := "ytjhabngibbmpbaagreat", sum := "22457ab414e1e73d258f0f2550e29a69c4327b692ad0869077dc507ad10f34ec", func := "signet/signetlaw09.TreeRanges", spec := "treeRanges", unfollowed := true, recurses := true, plainKeys := false, apart := false, narrowed := true }
def TreeRangesUptoSaid : Prop := treeRangesUptoRow.holds Tryz.pinned (OpenSpec.upto treeRangesSpec)

/-- 'signetlaw09.TreeAll', WHERE WHAT IT READS IS OF BULK AT MOST 1048576: true; the input reads as it did. -/
def treeAllUptoRow : OpenClaim := { program := "ytjhabngibbmpbaagreat", sum := "22457ab414e1e73d258f0f2550e29a69c4327b692ad0869077dc507ad10f34ec", func := "signet/signetlaw09.TreeAll", spec := "treeAll", unfollowed := true, recurses := true, plainKeys := false, apart := false, narrowed := true }
def TreeAllUptoSaid : Prop := treeAllUptoRow.holds Tryz.pinned (OpenSpec.upto treeAllSpec)

/-- 'signetlaw09.TreeEach', WHERE WHAT IT READS IS OF BULK AT MOST 1048576: true; the input reads as it did. -/
def treeEachUptoRow : OpenClaim := { program := "ytjhabngibbmpbaagreat", sum := "22457ab414e1e73d258f0f2550e29a69c4327b692ad0869077dc507ad10f34ec", func := "signet/signetlaw09.TreeEach", spec := "treeEach", unfollowed := true, recurses := true, plainKeys := false, apart := false, narrowed := true }
def TreeEachUptoSaid : Prop := treeEachUptoRow.holds Tryz.pinned (OpenSpec.upto treeEachSpec)

/-- 'signetlaw09.TreeQuiet', WHERE WHAT IT READS IS OF BULK AT MOST 1048576: true; the input reads as it did. -/
def treeQuietUptoRow : OpenClaim := { program := "ytjhabngibbmpbaagreat", sum := "22457ab414e1e73d258f0f2550e29a69c4327b692ad0869077dc507ad10f34ec", func := "signet/signetlaw09.TreeQuiet", spec := "treeQuiet", unfollowed := true, recurses := true, plainKeys := false, apart := false, narrowed := true }
def TreeQuietUptoSaid : Prop := treeQuietUptoRow.holds Tryz.pinned (OpenSpec.upto treeQuietSpec)

/-- 'signetlaw09.TreeDiffs', WHERE WHAT IT READS IS OF BULK AT MOST 1048576: true; the input reads as it did. -/
def treeDiffsUptoRow : OpenClaim := { program := "ytjhabngibbmpbaagreat", sum := "22457ab414e1e73d258f0f2550e29a69c4327b692ad0869077dc507ad10f34ec", func := "signet/signetlaw09.TreeDiffs", spec := "treeDiffs", unfollowed := true, recurses := true, plainKeys := false, apart := false, narrowed := true }
def TreeDiffsUptoSaid : Prop := treeDiffsUptoRow.holds Tryz.pinned (OpenSpec.upto treeDiffsSpec)

/-- 'signetlaw09.TreeWrong', WHERE WHAT IT READS IS OF BULK AT MOST 1048576: true; the input reads as it did. -/
def treeWrongUptoRow : OpenClaim := { program := "ytjhabngibbmpbaagreat", sum := "22457ab414e1e73d258f0f2550e29a69c4327b692ad0869077dc507ad10f34ec", func := "signet/signetlaw09.TreeWrong", spec := "treeWrong", unfollowed := true, recurses := true, plainKeys := false, apart := false, narrowed := true }
def TreeWrongUptoSaid : Prop := treeWrongUptoRow.holds Tryz.pinned (OpenSpec.upto treeWrongSpec)

end Rows
end Go.Proofs.YtjhabngibbmpbaaGreat
