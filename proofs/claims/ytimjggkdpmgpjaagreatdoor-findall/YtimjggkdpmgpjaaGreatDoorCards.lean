/-
  DERIVED. GIVEN WITH THE SEED: THE CARDS: each row of YtimjggkdpmgpjaaGreatDoorRows.lean that lists a variable, with what it lists TIED to the program's text (the seventh form; the later family's looks); each row that meets fmt, with fmt's text TOLD by the authors' own Lean function (tested against real Go, not proved from fmt's source: count such statements apart). THE CARD IS WHAT COUNTS. Prove the row's statement (the work); the ties are given (YtimjggkdpmgpjaaGreatDoorTie.lean); close each card by the builder's one call (the guide's Derived/Test/ToyasCard.lean, 'card_holds'). Laid BY PROGRAM, IN A SANDBOX (cutbox-door.mjs). By AI agents, Wed Nov 11 2026. No macro, syntax, notation, axiom, sorry.
-/
import Derived.Test.YtimjggkdpmgpjaaGreatDoorRows
import GoSem.ClaimSeven
namespace Go.Proofs.YtimjggkdpmgpjaaGreatDoor
namespace Rows

/-- THE TIED CARD OF 'signetlaw19.FindAll'. -/
def findAllCard : Claim7 := { stood := { row := findAllRow, standIns := [], harness := (true, "d506f16ba9d2bc6b6562eae915e89465ce5b89a40615dd4bfbf909a504d7252d"), looks := false }, kinds := [], alts := [], laidByText := true, laidKinds := [.data, .pinned], laidTests := true, laidLooks := .later }
def FindAllCardSaid : Prop := Claim7.holds Tryz.pinned (.plain (OpenSpec.ofChange findAllSpec)) findAllCard

/-- THE TIED CARD OF 'signetlaw19.FindEach'. -/
def findEachCard : Claim7 := { stood := { row := findEachRow, standIns := [], harness := (true, "d506f16ba9d2bc6b6562eae915e89465ce5b89a40615dd4bfbf909a504d7252d"), looks := false }, kinds := [], alts := [], laidByText := true, laidKinds := [.data, .pinned], laidTests := true, laidLooks := .later }
def FindEachCardSaid : Prop := Claim7.holds Tryz.pinned (.plain (OpenSpec.ofChange findEachSpec)) findEachCard

/-- THE TIED CARD OF 'signetlaw19.FindDeep'. -/
def findDeepCard : Claim7 := { stood := { row := findDeepRow, standIns := [], harness := (true, "d506f16ba9d2bc6b6562eae915e89465ce5b89a40615dd4bfbf909a504d7252d"), looks := false }, kinds := [], alts := [], laidByText := true, laidKinds := [.data, .pinned], laidTests := true, laidLooks := .later }
def FindDeepCardSaid : Prop := Claim7.holds Tryz.pinned (.plain (OpenSpec.ofChange findDeepSpec)) findDeepCard

/-- THE TIED CARD OF 'signetlaw19.FindGlobs'. -/
def findGlobsCard : Claim7 := { stood := { row := findGlobsRow, standIns := [], harness := (true, "d506f16ba9d2bc6b6562eae915e89465ce5b89a40615dd4bfbf909a504d7252d"), looks := false }, kinds := [], alts := [], laidByText := true, laidKinds := [.data, .pinned], laidTests := true, laidLooks := .later }
def FindGlobsCardSaid : Prop := Claim7.holds Tryz.pinned (.plain (OpenSpec.ofChange findGlobsSpec)) findGlobsCard

/-- THE SECOND FORM's CARD OF 'signetlaw19.FindAll'. -/
def findAllUptoCard : Claim7 := { stood := { row := findAllUptoRow, standIns := [], harness := (true, "d506f16ba9d2bc6b6562eae915e89465ce5b89a40615dd4bfbf909a504d7252d"), looks := false }, kinds := [], alts := [], laidByText := true, laidKinds := [.data, .pinned], laidTests := true, laidLooks := .later }
def FindAllUptoCardSaid : Prop := Claim7.holds Tryz.pinned (.plain (OpenSpec.upto findAllSpec)) findAllUptoCard

/-- THE SECOND FORM's CARD OF 'signetlaw19.FindEach'. -/
def findEachUptoCard : Claim7 := { stood := { row := findEachUptoRow, standIns := [], harness := (true, "d506f16ba9d2bc6b6562eae915e89465ce5b89a40615dd4bfbf909a504d7252d"), looks := false }, kinds := [], alts := [], laidByText := true, laidKinds := [.data, .pinned], laidTests := true, laidLooks := .later }
def FindEachUptoCardSaid : Prop := Claim7.holds Tryz.pinned (.plain (OpenSpec.upto findEachSpec)) findEachUptoCard

/-- THE SECOND FORM's CARD OF 'signetlaw19.FindDeep'. -/
def findDeepUptoCard : Claim7 := { stood := { row := findDeepUptoRow, standIns := [], harness := (true, "d506f16ba9d2bc6b6562eae915e89465ce5b89a40615dd4bfbf909a504d7252d"), looks := false }, kinds := [], alts := [], laidByText := true, laidKinds := [.data, .pinned], laidTests := true, laidLooks := .later }
def FindDeepUptoCardSaid : Prop := Claim7.holds Tryz.pinned (.plain (OpenSpec.upto findDeepSpec)) findDeepUptoCard

/-- THE SECOND FORM's CARD OF 'signetlaw19.FindGlobs'. -/
def findGlobsUptoCard : Claim7 := { stood := { row := findGlobsUptoRow, standIns := [], harness := (true, "d506f16ba9d2bc6b6562eae915e89465ce5b89a40615dd4bfbf909a504d7252d"), looks := false }, kinds := [], alts := [], laidByText := true, laidKinds := [.data, .pinned], laidTests := true, laidLooks := .later }
def FindGlobsUptoCardSaid : Prop := Claim7.holds Tryz.pinned (.plain (OpenSpec.upto findGlobsSpec)) findGlobsUptoCard
end Rows
end Go.Proofs.YtimjggkdpmgpjaaGreatDoor
