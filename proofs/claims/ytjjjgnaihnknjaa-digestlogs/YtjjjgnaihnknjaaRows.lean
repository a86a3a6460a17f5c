/-
  No cell of these rows narrows 'for every input' (looked for: loops, veiled, ifaces, maps, wideKeys, modest, calm, conditions, laid).
  DERIVED. THE GIVEN ROWS OF THIS SEAT. 5 by the template 'for every input the law returns true; each argument reads behind the call as it read before'; 0 by the template 'total and deterministic' (their statements: YtjjjgnaihnknjaaTotals.lean).
  GIVEN WITH THE SEED: the statements are not yours to turn. If you find one false, say at which input.
  Laid BY PROGRAM, IN A SANDBOX (cutbox-rows.mjs): the forced cells as the released guide's own fill.sh prints them over the translation f76f10f7d047060b… (all of the seat's roots in one cut). By AI agents, Wed Nov 11 2026. No macro, syntax, notation, axiom, sorry.
-/
import Derived.Test.YtjjjgnaihnknjaaChecked
import GoSem.Claim
import GoSem.ClaimJoined
import GoSem.ClaimMapViews
import Derived.JoinedTies
import Derived.KernelRfl
namespace Go.Proofs.Ytjjjgnaihnknjaa
/- THE CELL 'sum', in the pinned program and in every row, IS THE sha256 OF THE DUMP (.gsa) THAT YtjjjgnaihnknjaaProg.lean LOADS. Nothing in Lean hashes anything: it is a label: what it is worth is what the hold of that sum in a sandbox is worth. -/
noncomputable def Try.pinned : Pinned := { name := "ytjjjgnaihnknjaa", sum := "f76f10f7d047060b21f086a26652a349c2afbdcfc31a2361103baa9363b96db4", checked := Try.checked }
namespace Rows
def none {H : Type} : Left H := { results := [], args := [] }

/-- 'signetlaw02.MixTrails': WHATEVER THE INPUT: true; the input reads as it did. -/
def mixTrailsSpec : ChangeSpec := { name := "mixTrails", fn := fun _ => fun
  | [d1, d2, d3] => { results := [.lit (.bool true)], args := [d1, d2, d3] }
  | _ => none }
def mixTrailsRow : OpenClaim := { program := "ytjjjgnaihnknjaa", sum := "f76f10f7d047060b21f086a26652a349c2afbdcfc31a2361103baa9363b96db4", func := "signet/signetlaw02.MixTrails", spec := "mixTrails", plainKeys := false, apart := false }
def MixTrailsSaid : Prop := mixTrailsRow.holds Try.pinned (OpenSpec.ofChange mixTrailsSpec)

/-- ITS FALSE NEIGHBOUR: 'it returns false'. Refute it at one input. -/
def mixTrailsWrong : ChangeSpec := { name := "mixTrails", fn := fun _ => fun
  | [d1, d2, d3] => { results := [.lit (.bool false)], args := [d1, d2, d3] }
  | _ => none }
def MixTrailsWrongFalsely : Prop := mixTrailsRow.holds Try.pinned (OpenSpec.ofChange mixTrailsWrong)

/-- 'signetlaw03.DigestSums': WHATEVER THE INPUT: true; the input reads as it did. -/
def digestSumsSpec : ChangeSpec := { name := "digestSums", fn := fun _ => fun
  | [d1, d2] => { results := [.lit (.bool true)], args := [d1, d2] }
  | _ => none }
def digestSumsRow : OpenClaim := { program := "ytjjjgnaihnknjaa", sum := "f76f10f7d047060b21f086a26652a349c2afbdcfc31a2361103baa9363b96db4", func := "signet/signetlaw03.DigestSums", spec := "digestSums", plainKeys := false, apart := false }
def DigestSumsSaid : Prop := digestSumsRow.holds Try.pinned (OpenSpec.ofChange digestSumsSpec)

/-- ITS FALSE NEIGHBOUR: 'it returns false'. Refute it at one input. -/
def digestSumsWrong : ChangeSpec := { name := "digestSums", fn := fun _ => fun
  | [d1, d2] => { results := [.lit (.bool false)], args := [d1, d2] }
  | _ => none }
def DigestSumsWrongFalsely : Prop := digestSumsRow.holds Try.pinned (OpenSpec.ofChange digestSumsWrong)

/-- 'signetlaw03.DigestFeeds': WHATEVER THE INPUT: true; the input reads as it did. -/
def digestFeedsSpec : ChangeSpec := { name := "digestFeeds", fn := fun _ => fun
  | [d1, d2, d3] => { results := [.lit (.bool true)], args := [d1, d2, d3] }
  | _ => none }
def digestFeedsRow : OpenClaim := { program := "ytjjjgnaihnknjaa", sum := "f76f10f7d047060b21f086a26652a349c2afbdcfc31a2361103baa9363b96db4", func := "signet/signetlaw03.DigestFeeds", spec := "digestFeeds", plainKeys := false, apart := false }
def DigestFeedsSaid : Prop := digestFeedsRow.holds Try.pinned (OpenSpec.ofChange digestFeedsSpec)

/-- ITS FALSE NEIGHBOUR: 'it returns false'. Refute it at one input. -/
def digestFeedsWrong : ChangeSpec := { name := "digestFeeds", fn := fun _ => fun
  | [d1, d2, d3] => { results := [.lit (.bool false)], args := [d1, d2, d3] }
  | _ => none }
def DigestFeedsWrongFalsely : Prop := digestFeedsRow.holds Try.pinned (OpenSpec.ofChange digestFeedsWrong)

/-- 'signetlaw03.DigestTexts': WHATEVER THE INPUT: true; the input reads as it did. -/
def digestTextsSpec : ChangeSpec := { name := "digestTexts", fn := fun _ => fun
  | [d1, d2, d3] => { results := [.lit (.bool true)], args := [d1, d2, d3] }
  | _ => none }
def digestTextsRow : OpenClaim := { program := "ytjjjgnaihnknjaa", sum := "f76f10f7d047060b21f086a26652a349c2afbdcfc31a2361103baa9363b96db4", func := "signet/signetlaw03.DigestTexts", spec := "digestTexts", inPlace := ["internal/bytealg.IndexByteString", "internal/bytealg.Compare"], plainKeys := false, apart := false }
def DigestTextsSaid : Prop := digestTextsRow.holds Try.pinned (OpenSpec.ofChange digestTextsSpec)

/-- ITS FALSE NEIGHBOUR: 'it returns false'. Refute it at one input. -/
def digestTextsWrong : ChangeSpec := { name := "digestTexts", fn := fun _ => fun
  | [d1, d2, d3] => { results := [.lit (.bool false)], args := [d1, d2, d3] }
  | _ => none }
def DigestTextsWrongFalsely : Prop := digestTextsRow.holds Try.pinned (OpenSpec.ofChange digestTextsWrong)

/-- 'signetlaw03.DigestLogs': WHATEVER THE INPUT: true; the input reads as it did. -/
def digestLogsSpec : ChangeSpec := { name := "digestLogs", fn := fun _ => fun
  | [d] => { results := [.lit (.bool true)], args := [d] }
  | _ => none }
def digestLogsRow : OpenClaim := { program := "ytjjjgnaihnknjaa", sum := "f76f10f7d047060b21f086a26652a349c2afbdcfc31a2361103baa9363b96db4", func := "signet/signetlaw03.DigestLogs", spec := "digestLogs", inPlace := ["maps.clone"], plainKeys := false, apart := false }
def DigestLogsSaid : Prop := digestLogsRow.holds Try.pinned (OpenSpec.ofChange digestLogsSpec)

/-- ITS FALSE NEIGHBOUR: 'it returns false'. Refute it at one input. -/
def digestLogsWrong : ChangeSpec := { name := "digestLogs", fn := fun _ => fun
  | [d] => { results := [.lit (.bool false)], args := [d] }
  | _ => none }
def DigestLogsWrongFalsely : Prop := digestLogsRow.holds Try.pinned (OpenSpec.ofChange digestLogsWrong)

/- THE SECOND FORM. 'bulk': how many values and letters a reading holds, each counted each time it is reached (what is shared counts as often as it is met; a slice's spare places count too). A statement '..UptoSaid' is the law's where the arguments, and the package variables that the reading takes, are together of bulk at most 1048576: NARROWER than '..Said'. Prove '..Said' where nothing that the law and all that it calls make is longer than what came in: it says more and counts as full. Else prove '..UptoSaid'. A law counts once. -/
mutual
def uptoBulk {H : Type} : DataW H → Nat
  | .lit (.string bytes) => bytes.length + 1
  | .lit _ => 1
  | .nil => 1
  | .ptr d => uptoBulk d + 1
  | .slice elems spare => uptoBulkAll elems + uptoBulkAll spare + 1
  | .agg parts => uptoBulkAll parts + 1
  | .iface _ d => uptoBulk d + 1
  | .map entries => uptoBulkEntries entries + 1
  | .held _ => 1
def uptoBulkAll {H : Type} : List (DataW H) → Nat
  | [] => 0
  | d :: r => uptoBulk d + uptoBulkAll r
def uptoBulkEntries {H : Type} : List (Lit × DataW H) → Nat
  | [] => 0
  | x :: r => uptoBulkEntry x + uptoBulkEntries r
def uptoBulkEntry {H : Type} : Lit × DataW H → Nat
  | (.string bytes, d) => bytes.length + uptoBulk d + 1
  | (_, d) => uptoBulk d + 1
 end
def uptoSmall : (H : Type) → List (DataW H) → Bool := fun _ ds => decide (uptoBulkAll ds ≤ 1048576)
def OpenSpec.upto (s : _root_.Go.ChangeSpec) : _root_.Go.OpenSpec := { _root_.Go.OpenSpec.ofChange s with cond := some uptoSmall }

/-- 'signetlaw02.MixTrails', WHERE WHAT IT READS IS OF BULK AT MOST 1048576: true; the input reads as it did. -/
def mixTrailsUptoRow : OpenClaim := { program := "ytjjjgnaihnknjaa", sum := "f76f10f7d047060b21f086a26652a349c2afbdcfc31a2361103baa9363b96db4", func := "signet/signetlaw02.MixTrails", spec := "mixTrails", plainKeys := false, apart := false, narrowed := true }
def MixTrailsUptoSaid : Prop := mixTrailsUptoRow.holds Try.pinned (OpenSpec.upto mixTrailsSpec)

/-- 'signetlaw03.DigestSums', WHERE WHAT IT READS IS OF BULK AT MOST 1048576: true; the input reads as it did. -/
def digestSumsUptoRow : OpenClaim := { program := "ytjjjgnaihnknjaa", sum := "f76f10f7d047060b21f086a26652a349c2afbdcfc31a2361103baa9363b96db4", func := "signet/signetlaw03.DigestSums", spec := "digestSums", plainKeys := false, apart := false, narrowed := true }
def DigestSumsUptoSaid : Prop := digestSumsUptoRow.holds Try.pinned (OpenSpec.upto digestSumsSpec)

/-- 'signetlaw03.DigestFeeds', WHERE WHAT IT READS IS OF BULK AT MOST 1048576: true; the input reads as it did. -/
def digestFeedsUptoRow : OpenClaim := { program := "ytjjjgnaihnknjaa", sum := "f76f10f7d047060b21f086a26652a349c2afbdcfc31a2361103baa9363b96db4", func := "signet/signetlaw03.DigestFeeds", spec := "digestFeeds", plainKeys := false, apart := false, narrowed := true }
def DigestFeedsUptoSaid : Prop := digestFeedsUptoRow.holds Try.pinned (OpenSpec.upto digestFeedsSpec)

/-- 'signetlaw03.DigestTexts', WHERE WHAT IT READS IS OF BULK AT MOST 1048576: true; the input reads as it did. -/
def digestTextsUptoRow : OpenClaim := { program := "ytjjjgnaihnknjaa", sum := "f76f10f7d047060b21f086a26652a349c2afbdcfc31a2361103baa9363b96db4", func := "signet/signetlaw03.DigestTexts", spec := "digestTexts", inPlace := ["internal/bytealg.IndexByteString", "internal/bytealg.Compare"], plainKeys := false, apart := false, narrowed := true }
def DigestTextsUptoSaid : Prop := digestTextsUptoRow.holds Try.pinned (OpenSpec.upto digestTextsSpec)

/-- 'signetlaw03.DigestLogs', WHERE WHAT IT READS IS OF BULK AT MOST 1048576: true; the input reads as it did. -/
def digestLogsUptoRow : OpenClaim := { program := "ytjjjgnaihnknjaa", sum := "f76f10f7d047060b21f086a26652a349c2afbdcfc31a2361103baa9363b96db4", func := "signet/signetlaw03.DigestLogs", spec := "digestLogs", inPlace := ["maps.clone"], plainKeys := false, apart := false, narrowed := true }
def DigestLogsUptoSaid : Prop := digestLogsUptoRow.holds Try.pinned (OpenSpec.upto digestLogsSpec)

end Rows
end Go.Proofs.Ytjjjgnaihnknjaa
