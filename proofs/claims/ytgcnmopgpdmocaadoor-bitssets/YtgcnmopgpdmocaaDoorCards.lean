/-
  DERIVED. GIVEN WITH THE SEED: THE CARDS: each row of YtgcnmopgpdmocaaDoorRows.lean that lists a variable, with what it lists TIED to the program's text (the seventh form; the later family's looks); each row that meets fmt, with fmt's text TOLD by the authors' own Lean function (tested against real Go, not proved from fmt's source: count such statements apart). THE CARD IS WHAT COUNTS. Prove the row's statement (the work); the ties are given (YtgcnmopgpdmocaaDoorTie.lean); close each card by the builder's one call (the guide's Derived/Test/ToyasCard.lean, 'card_holds'). Laid BY PROGRAM, IN A SANDBOX (cutbox-door.mjs). By AI agents, Wed Nov 11 2026. No macro, syntax, notation, axiom, sorry.
-/
import Derived.Test.YtgcnmopgpdmocaaDoorRows
import GoSem.ClaimSeven
namespace Go.Proofs.YtgcnmopgpdmocaaDoor
namespace Rows

/-- THE TIED CARD OF 'signetlaw11.BitsSets'. -/
def bitsSetsCard : Claim7 := { stood := { row := bitsSetsRow, standIns := [], harness := (true, "629c48fd5f6df818ca39ea7cce8257c1c3c7e6ccecf39e4eb0ea893a476fda73"), looks := false }, kinds := [], alts := [], laidByText := true, laidKinds := [.data], laidTests := true, laidLooks := .later }
def BitsSetsCardSaid : Prop := Claim7.holds Tryd.pinned (.plain (OpenSpec.ofChange bitsSetsSpec)) bitsSetsCard

/-- THE TIED CARD OF 'signetlaw11.BitsWalks'. -/
def bitsWalksCard : Claim7 := { stood := { row := bitsWalksRow, standIns := [], harness := (true, "629c48fd5f6df818ca39ea7cce8257c1c3c7e6ccecf39e4eb0ea893a476fda73"), looks := false }, kinds := [], alts := [], laidByText := true, laidKinds := [.data], laidTests := true, laidLooks := .later }
def BitsWalksCardSaid : Prop := Claim7.holds Tryd.pinned (.plain (OpenSpec.ofChange bitsWalksSpec)) bitsWalksCard

/-- THE TIED CARD OF 'signetlaw11.BitsLeaves'. -/
def bitsLeavesCard : Claim7 := { stood := { row := bitsLeavesRow, standIns := [], harness := (true, "629c48fd5f6df818ca39ea7cce8257c1c3c7e6ccecf39e4eb0ea893a476fda73"), looks := false }, kinds := [], alts := [], laidByText := true, laidKinds := [.data], laidTests := true, laidLooks := .later }
def BitsLeavesCardSaid : Prop := Claim7.holds Tryd.pinned (.plain (OpenSpec.ofChange bitsLeavesSpec)) bitsLeavesCard

/-- THE SECOND FORM's CARD OF 'signetlaw11.BitsSets'. -/
def bitsSetsUptoCard : Claim7 := { stood := { row := bitsSetsUptoRow, standIns := [], harness := (true, "629c48fd5f6df818ca39ea7cce8257c1c3c7e6ccecf39e4eb0ea893a476fda73"), looks := false }, kinds := [], alts := [], laidByText := true, laidKinds := [.data], laidTests := true, laidLooks := .later }
def BitsSetsUptoCardSaid : Prop := Claim7.holds Tryd.pinned (.plain (OpenSpec.upto bitsSetsSpec)) bitsSetsUptoCard

/-- THE SECOND FORM's CARD OF 'signetlaw11.BitsWalks'. -/
def bitsWalksUptoCard : Claim7 := { stood := { row := bitsWalksUptoRow, standIns := [], harness := (true, "629c48fd5f6df818ca39ea7cce8257c1c3c7e6ccecf39e4eb0ea893a476fda73"), looks := false }, kinds := [], alts := [], laidByText := true, laidKinds := [.data], laidTests := true, laidLooks := .later }
def BitsWalksUptoCardSaid : Prop := Claim7.holds Tryd.pinned (.plain (OpenSpec.upto bitsWalksSpec)) bitsWalksUptoCard

/-- THE SECOND FORM's CARD OF 'signetlaw11.BitsLeaves'. -/
def bitsLeavesUptoCard : Claim7 := { stood := { row := bitsLeavesUptoRow, standIns := [], harness := (true, "629c48fd5f6df818ca39ea7cce8257c1c3c7e6ccecf39e4eb0ea893a476fda73"), looks := false }, kinds := [], alts := [], laidByText := true, laidKinds := [.data], laidTests := true, laidLooks := .later }
def BitsLeavesUptoCardSaid : Prop := Claim7.holds Tryd.pinned (.plain (OpenSpec.upto bitsLeavesSpec)) bitsLeavesUptoCard
end Rows
end Go.Proofs.YtgcnmopgpdmocaaDoor
