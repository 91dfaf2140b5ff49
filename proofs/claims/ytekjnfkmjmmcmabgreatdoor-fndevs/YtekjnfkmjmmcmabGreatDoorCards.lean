/-
  DERIVED. GIVEN WITH THE SEED: THE CARDS: each row of YtekjnfkmjmmcmabGreatDoorRows.lean that lists a variable, with what it lists TIED to the program's text (the seventh form; the later family's looks); each row that meets fmt, with fmt's text TOLD by the authors' own Lean function (tested against real Go, not proved from fmt's source: count such statements apart). THE CARD IS WHAT COUNTS. Prove the row's statement (the work); the ties are given (YtekjnfkmjmmcmabGreatDoorTie.lean); close each card by the builder's one call (the guide's Derived/Test/ToyasCard.lean, 'card_holds'). Laid BY PROGRAM, IN A SANDBOX (cutbox-door.mjs). By AI agents, Wed Nov 11 2026. No macro, syntax, notation, axiom, sorry.
-/
import Derived.Test.YtekjnfkmjmmcmabGreatDoorRows
import GoSem.ClaimSeven
namespace Go.Proofs.YtekjnfkmjmmcmabGreatDoor
namespace Rows

/-- THE TIED CARD OF 'laws.FnDevs'. -/
def fnDevsCard : Claim7 := { stood := { row := fnDevsRow, standIns := [], harness := (true, "737caf863209c724679b04539ba44d5c370fad75848db924142729f44cb2bc14"), looks := true }, kinds := [], alts := [], laidByText := true, laidKinds := [.data, .data, .data, .data, .handle, .pinned], laidTests := true, laidLooks := .later }
def FnDevsCardSaid : Prop := Claim7.holds Tryz.pinned (.plain (OpenSpec.ofChange fnDevsSpec)) fnDevsCard

/-- THE SECOND FORM's CARD OF 'laws.FnDevs'. -/
def fnDevsUptoCard : Claim7 := { stood := { row := fnDevsUptoRow, standIns := [], harness := (true, "737caf863209c724679b04539ba44d5c370fad75848db924142729f44cb2bc14"), looks := true }, kinds := [], alts := [], laidByText := true, laidKinds := [.data, .data, .data, .data, .handle, .pinned], laidTests := true, laidLooks := .later }
def FnDevsUptoCardSaid : Prop := Claim7.holds Tryz.pinned (.plain (OpenSpec.upto fnDevsSpec)) fnDevsUptoCard
end Rows
end Go.Proofs.YtekjnfkmjmmcmabGreatDoor
