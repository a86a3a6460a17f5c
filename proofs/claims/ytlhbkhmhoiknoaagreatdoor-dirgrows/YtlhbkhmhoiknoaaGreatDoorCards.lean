/-
  DERIVED. GIVEN WITH THE SEED: THE CARDS: each row of YtlhbkhmhoiknoaaGreatDoorRows.lean that lists a variable, with what it lists TIED to the program's text (the seventh form; the later family's looks); each row that meets fmt, with fmt's text TOLD by the authors' own Lean function (tested against real Go, not proved from fmt's source: count such statements apart). THE CARD IS WHAT COUNTS. Prove the row's statement (the work); the ties are given (YtlhbkhmhoiknoaaGreatDoorTie.lean); close each card by the builder's one call (the guide's Derived/Test/ToyasCard.lean, 'card_holds'). Laid BY PROGRAM, IN A SANDBOX (cutbox-door.mjs). By AI agents, Wed Nov 11 2026. No macro, syntax, notation, axiom, sorry.
-/
import Derived.Test.YtlhbkhmhoiknoaaGreatDoorRows
import GoSem.ClaimSeven
namespace Go.Proofs.YtlhbkhmhoiknoaaGreatDoor
namespace Rows

/-- THE TIED CARD OF 'signetlaw17.DirGrows'. -/
def dirGrowsCard : Claim7 := { stood := { row := dirGrowsRow, standIns := [], harness := (true, "8a0ef086b7a1d3a75e07d09b4a80ae55d274449852250a7460d1693a6e3ea183"), looks := false }, kinds := [], alts := [], laidByText := true, laidKinds := [.data, .pinned], laidTests := true, laidLooks := .later }
def DirGrowsCardSaid : Prop := Claim7.holds Tryz.pinned (.plain (OpenSpec.ofChange dirGrowsSpec)) dirGrowsCard

/-- THE TIED CARD OF 'signetlaw17.DirNil'. -/
def dirNilCard : Claim7 := { stood := { row := dirNilRow, standIns := [], harness := (true, "8a0ef086b7a1d3a75e07d09b4a80ae55d274449852250a7460d1693a6e3ea183"), looks := false }, kinds := [], alts := [], laidByText := true, laidKinds := [.data, .pinned], laidTests := true, laidLooks := .later }
def DirNilCardSaid : Prop := Claim7.holds Tryz.pinned (.plain (OpenSpec.ofChange dirNilSpec)) dirNilCard

/-- THE SECOND FORM's CARD OF 'signetlaw17.DirGrows'. -/
def dirGrowsUptoCard : Claim7 := { stood := { row := dirGrowsUptoRow, standIns := [], harness := (true, "8a0ef086b7a1d3a75e07d09b4a80ae55d274449852250a7460d1693a6e3ea183"), looks := false }, kinds := [], alts := [], laidByText := true, laidKinds := [.data, .pinned], laidTests := true, laidLooks := .later }
def DirGrowsUptoCardSaid : Prop := Claim7.holds Tryz.pinned (.plain (OpenSpec.upto dirGrowsSpec)) dirGrowsUptoCard

/-- THE SECOND FORM's CARD OF 'signetlaw17.DirNil'. -/
def dirNilUptoCard : Claim7 := { stood := { row := dirNilUptoRow, standIns := [], harness := (true, "8a0ef086b7a1d3a75e07d09b4a80ae55d274449852250a7460d1693a6e3ea183"), looks := false }, kinds := [], alts := [], laidByText := true, laidKinds := [.data, .pinned], laidTests := true, laidLooks := .later }
def DirNilUptoCardSaid : Prop := Claim7.holds Tryz.pinned (.plain (OpenSpec.upto dirNilSpec)) dirNilUptoCard
end Rows
end Go.Proofs.YtlhbkhmhoiknoaaGreatDoor
