/-
  DERIVED. GIVEN WITH THE SEED: THE CARDS: each row of YtojnlmfahgeidaaGreatDoorRows.lean that lists a variable, with what it lists TIED to the program's text (the seventh form; the later family's looks); each row that meets fmt, with fmt's text TOLD by the authors' own Lean function (tested against real Go, not proved from fmt's source: count such statements apart). THE CARD IS WHAT COUNTS. Prove the row's statement (the work); the ties are given (YtojnlmfahgeidaaGreatDoorTie.lean); close each card by the builder's one call (the guide's Derived/Test/ToyasCard.lean, 'card_holds'). Laid BY PROGRAM, IN A SANDBOX (cutbox-door.mjs). By AI agents, Wed Nov 11 2026. No macro, syntax, notation, axiom, sorry.
-/
import Derived.Test.YtojnlmfahgeidaaGreatDoorRows
import GoSem.ClaimSeven
namespace Go.Proofs.YtojnlmfahgeidaaGreatDoor
namespace Rows

/-- THE TIED CARD OF 'signetlaw17.DirPlays'. -/
def dirPlaysCard : Claim7 := { stood := { row := dirPlaysRow, standIns := [], harness := (true, "2a4223245b5b09898e96b0f740655bcc00e78740e02f85d51ba16fa95ceaaef5"), looks := true }, kinds := [], alts := [], laidByText := true, laidKinds := [.data, .pinned], laidTests := true, laidLooks := .later }
def DirPlaysCardSaid : Prop := Claim7.holds Tryz.pinned (.plain (OpenSpec.ofChange dirPlaysSpec)) dirPlaysCard

/-- THE TIED CARD OF 'signetlaw17.DirAsks'. -/
def dirAsksCard : Claim7 := { stood := { row := dirAsksRow, standIns := [], harness := (true, "2a4223245b5b09898e96b0f740655bcc00e78740e02f85d51ba16fa95ceaaef5"), looks := true }, kinds := [], alts := [], laidByText := true, laidKinds := [.data, .pinned], laidTests := true, laidLooks := .later }
def DirAsksCardSaid : Prop := Claim7.holds Tryz.pinned (.plain (OpenSpec.ofChange dirAsksSpec)) dirAsksCard

/-- THE TIED CARD OF 'signetlaw17.DirSlices'. -/
def dirSlicesCard : Claim7 := { stood := { row := dirSlicesRow, standIns := [], harness := (true, "2a4223245b5b09898e96b0f740655bcc00e78740e02f85d51ba16fa95ceaaef5"), looks := true }, kinds := [], alts := [], laidByText := true, laidKinds := [.data, .pinned], laidTests := true, laidLooks := .later }
def DirSlicesCardSaid : Prop := Claim7.holds Tryz.pinned (.plain (OpenSpec.ofChange dirSlicesSpec)) dirSlicesCard

/-- THE TIED CARD OF 'signetlaw19.FindWalks'. -/
def findWalksCard : Claim7 := { stood := { row := findWalksRow, standIns := [], harness := (true, "2a4223245b5b09898e96b0f740655bcc00e78740e02f85d51ba16fa95ceaaef5"), looks := true }, kinds := [], alts := [], laidByText := true, laidKinds := [.data, .pinned], laidTests := true, laidLooks := .later }
def FindWalksCardSaid : Prop := Claim7.holds Tryz.pinned (.plain (OpenSpec.ofChange findWalksSpec)) findWalksCard

/-- THE TIED CARD OF 'signetlaw19.FindLooks'. -/
def findLooksCard : Claim7 := { stood := { row := findLooksRow, standIns := [], harness := (true, "2a4223245b5b09898e96b0f740655bcc00e78740e02f85d51ba16fa95ceaaef5"), looks := true }, kinds := [], alts := [], laidByText := true, laidKinds := [.data, .pinned], laidTests := true, laidLooks := .later }
def FindLooksCardSaid : Prop := Claim7.holds Tryz.pinned (.plain (OpenSpec.ofChange findLooksSpec)) findLooksCard

/-- THE TIED CARD OF 'signetlaw22.BranchNil'. -/
def branchNilCard : Claim7 := { stood := { row := branchNilRow, standIns := [], harness := (true, "2a4223245b5b09898e96b0f740655bcc00e78740e02f85d51ba16fa95ceaaef5"), looks := true }, kinds := [], alts := [], laidByText := true, laidKinds := [.data, .pinned], laidTests := true, laidLooks := .later }
def BranchNilCardSaid : Prop := Claim7.holds Tryz.pinned (.plain (OpenSpec.ofChange branchNilSpec)) branchNilCard

/-- THE TIED CARD OF 'signetlaw22.BranchNone'. -/
def branchNoneCard : Claim7 := { stood := { row := branchNoneRow, standIns := [], harness := (true, "2a4223245b5b09898e96b0f740655bcc00e78740e02f85d51ba16fa95ceaaef5"), looks := true }, kinds := [], alts := [], laidByText := true, laidKinds := [.data, .pinned], laidTests := true, laidLooks := .later }
def BranchNoneCardSaid : Prop := Claim7.holds Tryz.pinned (.plain (OpenSpec.ofChange branchNoneSpec)) branchNoneCard

/-- THE SECOND FORM's CARD OF 'signetlaw17.DirPlays'. -/
def dirPlaysUptoCard : Claim7 := { stood := { row := dirPlaysUptoRow, standIns := [], harness := (true, "2a4223245b5b09898e96b0f740655bcc00e78740e02f85d51ba16fa95ceaaef5"), looks := true }, kinds := [], alts := [], laidByText := true, laidKinds := [.data, .pinned], laidTests := true, laidLooks := .later }
def DirPlaysUptoCardSaid : Prop := Claim7.holds Tryz.pinned (.plain (OpenSpec.upto dirPlaysSpec)) dirPlaysUptoCard

/-- THE SECOND FORM's CARD OF 'signetlaw17.DirAsks'. -/
def dirAsksUptoCard : Claim7 := { stood := { row := dirAsksUptoRow, standIns := [], harness := (true, "2a4223245b5b09898e96b0f740655bcc00e78740e02f85d51ba16fa95ceaaef5"), looks := true }, kinds := [], alts := [], laidByText := true, laidKinds := [.data, .pinned], laidTests := true, laidLooks := .later }
def DirAsksUptoCardSaid : Prop := Claim7.holds Tryz.pinned (.plain (OpenSpec.upto dirAsksSpec)) dirAsksUptoCard

/-- THE SECOND FORM's CARD OF 'signetlaw17.DirSlices'. -/
def dirSlicesUptoCard : Claim7 := { stood := { row := dirSlicesUptoRow, standIns := [], harness := (true, "2a4223245b5b09898e96b0f740655bcc00e78740e02f85d51ba16fa95ceaaef5"), looks := true }, kinds := [], alts := [], laidByText := true, laidKinds := [.data, .pinned], laidTests := true, laidLooks := .later }
def DirSlicesUptoCardSaid : Prop := Claim7.holds Tryz.pinned (.plain (OpenSpec.upto dirSlicesSpec)) dirSlicesUptoCard

/-- THE SECOND FORM's CARD OF 'signetlaw19.FindWalks'. -/
def findWalksUptoCard : Claim7 := { stood := { row := findWalksUptoRow, standIns := [], harness := (true, "2a4223245b5b09898e96b0f740655bcc00e78740e02f85d51ba16fa95ceaaef5"), looks := true }, kinds := [], alts := [], laidByText := true, laidKinds := [.data, .pinned], laidTests := true, laidLooks := .later }
def FindWalksUptoCardSaid : Prop := Claim7.holds Tryz.pinned (.plain (OpenSpec.upto findWalksSpec)) findWalksUptoCard

/-- THE SECOND FORM's CARD OF 'signetlaw19.FindLooks'. -/
def findLooksUptoCard : Claim7 := { stood := { row := findLooksUptoRow, standIns := [], harness := (true, "2a4223245b5b09898e96b0f740655bcc00e78740e02f85d51ba16fa95ceaaef5"), looks := true }, kinds := [], alts := [], laidByText := true, laidKinds := [.data, .pinned], laidTests := true, laidLooks := .later }
def FindLooksUptoCardSaid : Prop := Claim7.holds Tryz.pinned (.plain (OpenSpec.upto findLooksSpec)) findLooksUptoCard

/-- THE SECOND FORM's CARD OF 'signetlaw22.BranchNil'. -/
def branchNilUptoCard : Claim7 := { stood := { row := branchNilUptoRow, standIns := [], harness := (true, "2a4223245b5b09898e96b0f740655bcc00e78740e02f85d51ba16fa95ceaaef5"), looks := true }, kinds := [], alts := [], laidByText := true, laidKinds := [.data, .pinned], laidTests := true, laidLooks := .later }
def BranchNilUptoCardSaid : Prop := Claim7.holds Tryz.pinned (.plain (OpenSpec.upto branchNilSpec)) branchNilUptoCard

/-- THE SECOND FORM's CARD OF 'signetlaw22.BranchNone'. -/
def branchNoneUptoCard : Claim7 := { stood := { row := branchNoneUptoRow, standIns := [], harness := (true, "2a4223245b5b09898e96b0f740655bcc00e78740e02f85d51ba16fa95ceaaef5"), looks := true }, kinds := [], alts := [], laidByText := true, laidKinds := [.data, .pinned], laidTests := true, laidLooks := .later }
def BranchNoneUptoCardSaid : Prop := Claim7.holds Tryz.pinned (.plain (OpenSpec.upto branchNoneSpec)) branchNoneUptoCard
end Rows
end Go.Proofs.YtojnlmfahgeidaaGreatDoor
