/-
  DERIVED. GIVEN WITH THE SEED: THE CARDS: each row of YtekjnfkmjmmcmabDoorRows.lean that lists a variable, with what it lists TIED to the program's text (the seventh form; the later family's looks); each row that meets fmt, with fmt's text TOLD by the authors' own Lean function (tested against real Go, not proved from fmt's source: count such statements apart). THE CARD IS WHAT COUNTS. Prove the row's statement (the work); the ties are given (YtekjnfkmjmmcmabDoorTie.lean); close each card by the builder's one call (the guide's Derived/Test/ToyasCard.lean, 'card_holds'). Laid BY PROGRAM, IN A SANDBOX (cutbox-door.mjs). By AI agents, Wed Nov 11 2026. No macro, syntax, notation, axiom, sorry.
-/
import Derived.Test.YtekjnfkmjmmcmabDoorRows
import GoSem.ClaimSeven
namespace Go.Proofs.YtekjnfkmjmmcmabDoor
namespace Rows

/-- THE TIED CARD OF 'laws.FnStampOrder'. -/
def fnStampOrderCard : Claim7 := { stood := { row := fnStampOrderRow, standIns := [], harness := (true, "db6c6378c80199c133a17d2828b0ffb185291944c6b303b1eb63a1631003e3d5"), looks := true }, kinds := [], alts := [], laidByText := true, laidKinds := [.data, .data, .data, .data, .pinned], laidTests := true, laidLooks := .later }
def FnStampOrderCardSaid : Prop := Claim7.holds Tryd.pinned (.plain (OpenSpec.ofChange fnStampOrderSpec)) fnStampOrderCard

/-- THE TIED CARD OF 'laws.FnStampsRead'. -/
def fnStampsReadCard : Claim7 := { stood := { row := fnStampsReadRow, standIns := [], harness := (true, "db6c6378c80199c133a17d2828b0ffb185291944c6b303b1eb63a1631003e3d5"), looks := true }, kinds := [], alts := [], laidByText := true, laidKinds := [.data, .data, .data, .data, .pinned], laidTests := true, laidLooks := .later }
def FnStampsReadCardSaid : Prop := Claim7.holds Tryd.pinned (.plain (OpenSpec.ofChange fnStampsReadSpec)) fnStampsReadCard

/-- THE TIED CARD OF 'laws.FnDevsRead'. -/
def fnDevsReadCard : Claim7 := { stood := { row := fnDevsReadRow, standIns := [], harness := (true, "db6c6378c80199c133a17d2828b0ffb185291944c6b303b1eb63a1631003e3d5"), looks := true }, kinds := [], alts := [], laidByText := true, laidKinds := [.data, .data, .data, .data, .handle, .pinned], laidTests := true, laidLooks := .later }
def FnDevsReadCardSaid : Prop := Claim7.holds Tryd.pinned (.plain (OpenSpec.ofChange fnDevsReadSpec)) fnDevsReadCard

/-- THE SECOND FORM's CARD OF 'laws.FnStampOrder'. -/
def fnStampOrderUptoCard : Claim7 := { stood := { row := fnStampOrderUptoRow, standIns := [], harness := (true, "db6c6378c80199c133a17d2828b0ffb185291944c6b303b1eb63a1631003e3d5"), looks := true }, kinds := [], alts := [], laidByText := true, laidKinds := [.data, .data, .data, .data, .pinned], laidTests := true, laidLooks := .later }
def FnStampOrderUptoCardSaid : Prop := Claim7.holds Tryd.pinned (.plain (OpenSpec.upto fnStampOrderSpec)) fnStampOrderUptoCard

/-- THE SECOND FORM's CARD OF 'laws.FnStampsRead'. -/
def fnStampsReadUptoCard : Claim7 := { stood := { row := fnStampsReadUptoRow, standIns := [], harness := (true, "db6c6378c80199c133a17d2828b0ffb185291944c6b303b1eb63a1631003e3d5"), looks := true }, kinds := [], alts := [], laidByText := true, laidKinds := [.data, .data, .data, .data, .pinned], laidTests := true, laidLooks := .later }
def FnStampsReadUptoCardSaid : Prop := Claim7.holds Tryd.pinned (.plain (OpenSpec.upto fnStampsReadSpec)) fnStampsReadUptoCard

/-- THE SECOND FORM's CARD OF 'laws.FnDevsRead'. -/
def fnDevsReadUptoCard : Claim7 := { stood := { row := fnDevsReadUptoRow, standIns := [], harness := (true, "db6c6378c80199c133a17d2828b0ffb185291944c6b303b1eb63a1631003e3d5"), looks := true }, kinds := [], alts := [], laidByText := true, laidKinds := [.data, .data, .data, .data, .handle, .pinned], laidTests := true, laidLooks := .later }
def FnDevsReadUptoCardSaid : Prop := Claim7.holds Tryd.pinned (.plain (OpenSpec.upto fnDevsReadSpec)) fnDevsReadUptoCard
end Rows
end Go.Proofs.YtekjnfkmjmmcmabDoor
