/-
  DERIVED. GIVEN WITH THE SEED: THE CARDS: each row of YtjlngldmdfbbaaaDoorRows.lean that lists a variable, with what it lists TIED to the program's text (the seventh form; the later family's looks); each row that meets fmt, with fmt's text TOLD by the authors' own Lean function (tested against real Go, not proved from fmt's source: count such statements apart). THE CARD IS WHAT COUNTS. Prove the row's statement (the work); the ties are given (YtjlngldmdfbbaaaDoorTie.lean); close each card by the builder's one call (the guide's Derived/Test/ToyasCard.lean, 'card_holds'). Laid BY PROGRAM, IN A SANDBOX (cutbox-door.mjs). By AI agents, Wed Nov 11 2026. No macro, syntax, notation, axiom, sorry.
-/
import Derived.Test.YtjlngldmdfbbaaaDoorRows
import GoSem.ClaimSeven
namespace Go.Proofs.YtjlngldmdfbbaaaDoor
namespace Rows

/-- THE TIED CARD OF 'signetlaw12.RoomMany'. -/
def roomManyCard : Claim7 := { stood := { row := roomManyRow, standIns := [], harness := (true, "b98f538d162aee9768b2303d4d602ddcf86674142521871d7c17677c893035d6"), looks := false }, kinds := [], alts := [], laidByText := true, laidKinds := [.data], laidTests := true, laidLooks := .later }
def RoomManyCardSaid : Prop := Claim7.holds Tryd.pinned (.plain (OpenSpec.ofChange roomManySpec)) roomManyCard

/-- THE SECOND FORM's CARD OF 'signetlaw12.RoomMany'. -/
def roomManyUptoCard : Claim7 := { stood := { row := roomManyUptoRow, standIns := [], harness := (true, "b98f538d162aee9768b2303d4d602ddcf86674142521871d7c17677c893035d6"), looks := false }, kinds := [], alts := [], laidByText := true, laidKinds := [.data], laidTests := true, laidLooks := .later }
def RoomManyUptoCardSaid : Prop := Claim7.holds Tryd.pinned (.plain (OpenSpec.upto roomManySpec)) roomManyUptoCard
end Rows
end Go.Proofs.YtjlngldmdfbbaaaDoor
