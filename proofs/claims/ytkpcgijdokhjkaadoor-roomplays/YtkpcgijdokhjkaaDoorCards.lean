/-
  DERIVED. GIVEN WITH THE SEED: THE CARDS: each row of YtkpcgijdokhjkaaDoorRows.lean that lists a variable, with what it lists TIED to the program's text (the seventh form; the later family's looks); each row that meets fmt, with fmt's text TOLD by the authors' own Lean function (tested against real Go, not proved from fmt's source: count such statements apart). THE CARD IS WHAT COUNTS. Prove the row's statement (the work); the ties are given (YtkpcgijdokhjkaaDoorTie.lean); close each card by the builder's one call (the guide's Derived/Test/ToyasCard.lean, 'card_holds'). Laid BY PROGRAM, IN A SANDBOX (cutbox-door.mjs). By AI agents, Wed Nov 11 2026. No macro, syntax, notation, axiom, sorry.
-/
import Derived.Test.YtkpcgijdokhjkaaDoorRows
import GoSem.ClaimSeven
namespace Go.Proofs.YtkpcgijdokhjkaaDoor
namespace Rows

/-- THE TIED CARD OF 'signetlaw12.RoomNil'. -/
def roomNilCard : Claim7 := { stood := { row := roomNilRow, standIns := [], harness := (true, "ce2c6e12d3185f5e4bcb36db622a7b227bca479004d59b3db99ebb3233b7eef4"), looks := false }, kinds := [], alts := [], laidByText := true, laidKinds := [.data], laidTests := true, laidLooks := .later }
def RoomNilCardSaid : Prop := Claim7.holds Tryd.pinned (.plain (OpenSpec.ofChange roomNilSpec)) roomNilCard

/-- THE TIED CARD OF 'signetlaw12.RoomNone'. -/
def roomNoneCard : Claim7 := { stood := { row := roomNoneRow, standIns := [], harness := (true, "ce2c6e12d3185f5e4bcb36db622a7b227bca479004d59b3db99ebb3233b7eef4"), looks := false }, kinds := [], alts := [], laidByText := true, laidKinds := [.data], laidTests := true, laidLooks := .later }
def RoomNoneCardSaid : Prop := Claim7.holds Tryd.pinned (.plain (OpenSpec.ofChange roomNoneSpec)) roomNoneCard

/-- THE TIED CARD OF 'signetlaw12.RoomLoads'. -/
def roomLoadsCard : Claim7 := { stood := { row := roomLoadsRow, standIns := [], harness := (true, "ce2c6e12d3185f5e4bcb36db622a7b227bca479004d59b3db99ebb3233b7eef4"), looks := false }, kinds := [], alts := [], laidByText := true, laidKinds := [.data], laidTests := true, laidLooks := .later }
def RoomLoadsCardSaid : Prop := Claim7.holds Tryd.pinned (.plain (OpenSpec.ofChange roomLoadsSpec)) roomLoadsCard

/-- THE TIED CARD OF 'signetlaw12.RoomPlays'. -/
def roomPlaysCard : Claim7 := { stood := { row := roomPlaysRow, standIns := [], harness := (true, "ce2c6e12d3185f5e4bcb36db622a7b227bca479004d59b3db99ebb3233b7eef4"), looks := false }, kinds := [], alts := [], laidByText := true, laidKinds := [.data], laidTests := true, laidLooks := .later }
def RoomPlaysCardSaid : Prop := Claim7.holds Tryd.pinned (.plain (OpenSpec.ofChange roomPlaysSpec)) roomPlaysCard

/-- THE TIED CARD OF 'signetlaw12.RoomKeeps'. -/
def roomKeepsCard : Claim7 := { stood := { row := roomKeepsRow, standIns := [], harness := (true, "ce2c6e12d3185f5e4bcb36db622a7b227bca479004d59b3db99ebb3233b7eef4"), looks := false }, kinds := [], alts := [], laidByText := true, laidKinds := [.data], laidTests := true, laidLooks := .later }
def RoomKeepsCardSaid : Prop := Claim7.holds Tryd.pinned (.plain (OpenSpec.ofChange roomKeepsSpec)) roomKeepsCard

/-- THE TIED CARD OF 'signetlaw12.RoomMany'. -/
def roomManyCard : Claim7 := { stood := { row := roomManyRow, standIns := [], harness := (true, "ce2c6e12d3185f5e4bcb36db622a7b227bca479004d59b3db99ebb3233b7eef4"), looks := false }, kinds := [], alts := [], laidByText := true, laidKinds := [.data], laidTests := true, laidLooks := .later }
def RoomManyCardSaid : Prop := Claim7.holds Tryd.pinned (.plain (OpenSpec.ofChange roomManySpec)) roomManyCard

/-- THE SECOND FORM's CARD OF 'signetlaw12.RoomNil'. -/
def roomNilUptoCard : Claim7 := { stood := { row := roomNilUptoRow, standIns := [], harness := (true, "ce2c6e12d3185f5e4bcb36db622a7b227bca479004d59b3db99ebb3233b7eef4"), looks := false }, kinds := [], alts := [], laidByText := true, laidKinds := [.data], laidTests := true, laidLooks := .later }
def RoomNilUptoCardSaid : Prop := Claim7.holds Tryd.pinned (.plain (OpenSpec.upto roomNilSpec)) roomNilUptoCard

/-- THE SECOND FORM's CARD OF 'signetlaw12.RoomNone'. -/
def roomNoneUptoCard : Claim7 := { stood := { row := roomNoneUptoRow, standIns := [], harness := (true, "ce2c6e12d3185f5e4bcb36db622a7b227bca479004d59b3db99ebb3233b7eef4"), looks := false }, kinds := [], alts := [], laidByText := true, laidKinds := [.data], laidTests := true, laidLooks := .later }
def RoomNoneUptoCardSaid : Prop := Claim7.holds Tryd.pinned (.plain (OpenSpec.upto roomNoneSpec)) roomNoneUptoCard

/-- THE SECOND FORM's CARD OF 'signetlaw12.RoomLoads'. -/
def roomLoadsUptoCard : Claim7 := { stood := { row := roomLoadsUptoRow, standIns := [], harness := (true, "ce2c6e12d3185f5e4bcb36db622a7b227bca479004d59b3db99ebb3233b7eef4"), looks := false }, kinds := [], alts := [], laidByText := true, laidKinds := [.data], laidTests := true, laidLooks := .later }
def RoomLoadsUptoCardSaid : Prop := Claim7.holds Tryd.pinned (.plain (OpenSpec.upto roomLoadsSpec)) roomLoadsUptoCard

/-- THE SECOND FORM's CARD OF 'signetlaw12.RoomPlays'. -/
def roomPlaysUptoCard : Claim7 := { stood := { row := roomPlaysUptoRow, standIns := [], harness := (true, "ce2c6e12d3185f5e4bcb36db622a7b227bca479004d59b3db99ebb3233b7eef4"), looks := false }, kinds := [], alts := [], laidByText := true, laidKinds := [.data], laidTests := true, laidLooks := .later }
def RoomPlaysUptoCardSaid : Prop := Claim7.holds Tryd.pinned (.plain (OpenSpec.upto roomPlaysSpec)) roomPlaysUptoCard

/-- THE SECOND FORM's CARD OF 'signetlaw12.RoomKeeps'. -/
def roomKeepsUptoCard : Claim7 := { stood := { row := roomKeepsUptoRow, standIns := [], harness := (true, "ce2c6e12d3185f5e4bcb36db622a7b227bca479004d59b3db99ebb3233b7eef4"), looks := false }, kinds := [], alts := [], laidByText := true, laidKinds := [.data], laidTests := true, laidLooks := .later }
def RoomKeepsUptoCardSaid : Prop := Claim7.holds Tryd.pinned (.plain (OpenSpec.upto roomKeepsSpec)) roomKeepsUptoCard

/-- THE SECOND FORM's CARD OF 'signetlaw12.RoomMany'. -/
def roomManyUptoCard : Claim7 := { stood := { row := roomManyUptoRow, standIns := [], harness := (true, "ce2c6e12d3185f5e4bcb36db622a7b227bca479004d59b3db99ebb3233b7eef4"), looks := false }, kinds := [], alts := [], laidByText := true, laidKinds := [.data], laidTests := true, laidLooks := .later }
def RoomManyUptoCardSaid : Prop := Claim7.holds Tryd.pinned (.plain (OpenSpec.upto roomManySpec)) roomManyUptoCard
end Rows
end Go.Proofs.YtkpcgijdokhjkaaDoor
