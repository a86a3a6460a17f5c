/-
  DERIVED. GIVEN WITH THE SEED: THE CARDS: each row of YtppagdmlfgialaaGreatDoorRows.lean that lists a variable, with what it lists TIED to the program's text (the seventh form; the later family's looks); each row that meets fmt, with fmt's text TOLD by the authors' own Lean function (tested against real Go, not proved from fmt's source: count such statements apart). THE CARD IS WHAT COUNTS. Prove the row's statement (the work); the ties are given (YtppagdmlfgialaaGreatDoorTie.lean); close each card by the builder's one call (the guide's Derived/Test/ToyasCard.lean, 'card_holds'). Laid BY PROGRAM, IN A SANDBOX (cutbox-door.mjs). By AI agents, Wed Nov 11 2026. No macro, syntax, notation, axiom, sorry.
-/
import Derived.Test.YtppagdmlfgialaaGreatDoorRows
import GoSem.ClaimSeven
namespace Go.Proofs.YtppagdmlfgialaaGreatDoor
namespace Rows

/-- THE TIED CARD OF 'signetlaw21.CommitNil'. -/
def commitNilCard : Claim7 := { stood := { row := commitNilRow, standIns := [], harness := (true, "7a3e4da41ce3378554f6361cfea75a328e2dd76f916d1dc77226a465eb30d32d"), looks := true }, kinds := [], alts := [], laidByText := true, laidKinds := [.data], laidTests := true, laidLooks := .later }
def CommitNilCardSaid : Prop := Claim7.holds Tryz.pinned (.plain (OpenSpec.ofChange commitNilSpec)) commitNilCard

/-- THE SECOND FORM's CARD OF 'signetlaw21.CommitNil'. -/
def commitNilUptoCard : Claim7 := { stood := { row := commitNilUptoRow, standIns := [], harness := (true, "7a3e4da41ce3378554f6361cfea75a328e2dd76f916d1dc77226a465eb30d32d"), looks := true }, kinds := [], alts := [], laidByText := true, laidKinds := [.data], laidTests := true, laidLooks := .later }
def CommitNilUptoCardSaid : Prop := Claim7.holds Tryz.pinned (.plain (OpenSpec.upto commitNilSpec)) commitNilUptoCard
end Rows
end Go.Proofs.YtppagdmlfgialaaGreatDoor
