/-
  DERIVED. GIVEN WITH THE SEED: THE CARDS: each row of YtjbmhocmpgkmoaaDoorRows.lean that lists a variable, with what it lists TIED to the program's text (the seventh form; the later family's looks); each row that meets fmt, with fmt's text TOLD by the authors' own Lean function (tested against real Go, not proved from fmt's source: count such statements apart). THE CARD IS WHAT COUNTS. Prove the row's statement (the work); the ties are given (YtjbmhocmpgkmoaaDoorTie.lean); close each card by the builder's one call (the guide's Derived/Test/ToyasCard.lean, 'card_holds'). Laid BY PROGRAM, IN A SANDBOX (cutbox-door.mjs). By AI agents, Wed Nov 11 2026. No macro, syntax, notation, axiom, sorry.
-/
import Derived.Test.YtjbmhocmpgkmoaaDoorRows
import GoSem.ClaimSeven
namespace Go.Proofs.YtjbmhocmpgkmoaaDoor
namespace Rows

/-- THE TIED CARD OF 'signetlaw11.BitsLeaves'. -/
def bitsLeavesCard : Claim7 := { stood := { row := bitsLeavesRow, standIns := [], harness := (true, "86166c8ed1a6ce4a2e7b058a2b81663c52fa731a1c2b204a4e67d59931713902"), looks := false }, kinds := [], alts := [], laidByText := true, laidKinds := [.data], laidTests := true, laidLooks := .later }
def BitsLeavesCardSaid : Prop := Claim7.holds Tryd.pinned (.plain (OpenSpec.ofChange bitsLeavesSpec)) bitsLeavesCard

/-- THE TIED CARD OF 'signetlaw12.RoomPlays'. -/
def roomPlaysCard : Claim7 := { stood := { row := roomPlaysRow, standIns := [], harness := (true, "86166c8ed1a6ce4a2e7b058a2b81663c52fa731a1c2b204a4e67d59931713902"), looks := false }, kinds := [], alts := [], laidByText := true, laidKinds := [.data], laidTests := true, laidLooks := .later }
def RoomPlaysCardSaid : Prop := Claim7.holds Tryd.pinned (.plain (OpenSpec.ofChange roomPlaysSpec)) roomPlaysCard

/-- THE TIED CARD OF 'signetlaw12.RoomMany'. -/
def roomManyCard : Claim7 := { stood := { row := roomManyRow, standIns := [], harness := (true, "86166c8ed1a6ce4a2e7b058a2b81663c52fa731a1c2b204a4e67d59931713902"), looks := false }, kinds := [], alts := [], laidByText := true, laidKinds := [.data], laidTests := true, laidLooks := .later }
def RoomManyCardSaid : Prop := Claim7.holds Tryd.pinned (.plain (OpenSpec.ofChange roomManySpec)) roomManyCard

/-- THE SECOND FORM's CARD OF 'signetlaw11.BitsLeaves'. -/
def bitsLeavesUptoCard : Claim7 := { stood := { row := bitsLeavesUptoRow, standIns := [], harness := (true, "86166c8ed1a6ce4a2e7b058a2b81663c52fa731a1c2b204a4e67d59931713902"), looks := false }, kinds := [], alts := [], laidByText := true, laidKinds := [.data], laidTests := true, laidLooks := .later }
def BitsLeavesUptoCardSaid : Prop := Claim7.holds Tryd.pinned (.plain (OpenSpec.upto bitsLeavesSpec)) bitsLeavesUptoCard

/-- THE SECOND FORM's CARD OF 'signetlaw12.RoomPlays'. -/
def roomPlaysUptoCard : Claim7 := { stood := { row := roomPlaysUptoRow, standIns := [], harness := (true, "86166c8ed1a6ce4a2e7b058a2b81663c52fa731a1c2b204a4e67d59931713902"), looks := false }, kinds := [], alts := [], laidByText := true, laidKinds := [.data], laidTests := true, laidLooks := .later }
def RoomPlaysUptoCardSaid : Prop := Claim7.holds Tryd.pinned (.plain (OpenSpec.upto roomPlaysSpec)) roomPlaysUptoCard

/-- THE SECOND FORM's CARD OF 'signetlaw12.RoomMany'. -/
def roomManyUptoCard : Claim7 := { stood := { row := roomManyUptoRow, standIns := [], harness := (true, "86166c8ed1a6ce4a2e7b058a2b81663c52fa731a1c2b204a4e67d59931713902"), looks := false }, kinds := [], alts := [], laidByText := true, laidKinds := [.data], laidTests := true, laidLooks := .later }
def RoomManyUptoCardSaid : Prop := Claim7.holds Tryd.pinned (.plain (OpenSpec.upto roomManySpec)) roomManyUptoCard
end Rows
end Go.Proofs.YtjbmhocmpgkmoaaDoor
