/-
  DERIVED. GIVEN WITH THE SEED: THE CARDS: each row of YtkmomfnmmdlioabDoorRows.lean that lists a variable, with what it lists TIED to the program's text (the seventh form; the later family's looks); each row that meets fmt, with fmt's text TOLD by the authors' own Lean function (tested against real Go, not proved from fmt's source: count such statements apart). THE CARD IS WHAT COUNTS. Prove the row's statement (the work); the ties are given (YtkmomfnmmdlioabDoorTie.lean); close each card by the builder's one call (the guide's Derived/Test/ToyasCard.lean, 'card_holds'). Laid BY PROGRAM, IN A SANDBOX (cutbox-door.mjs). By AI agents, Wed Nov 11 2026. No macro, syntax, notation, axiom, sorry.
-/
import Derived.Test.YtkmomfnmmdlioabDoorRows
import GoSem.ClaimSeven
namespace Go.Proofs.YtkmomfnmmdlioabDoor
namespace Rows

/-- THE TIED CARD OF 'laws.FnStampOrder'. -/
def fnStampOrderCard : Claim7 := { stood := { row := fnStampOrderRow, standIns := [], harness := (true, "72eb0fe4f295e47b62165644b250fb2a6fd1e44defa15537dfc0143e4f7c8d10"), looks := false }, kinds := [], alts := [], laidByText := true, laidKinds := [.data, .data, .data, .data, .pinned], laidTests := true, laidLooks := .later }
def FnStampOrderCardSaid : Prop := Claim7.holds Tryd.pinned (.plain (OpenSpec.ofChange fnStampOrderSpec)) fnStampOrderCard

/-- THE TIED CARD OF 'laws.FnStampsRead'. -/
def fnStampsReadCard : Claim7 := { stood := { row := fnStampsReadRow, standIns := [], harness := (true, "72eb0fe4f295e47b62165644b250fb2a6fd1e44defa15537dfc0143e4f7c8d10"), looks := false }, kinds := [], alts := [], laidByText := true, laidKinds := [.data, .data, .data, .data, .pinned], laidTests := true, laidLooks := .later }
def FnStampsReadCardSaid : Prop := Claim7.holds Tryd.pinned (.plain (OpenSpec.ofChange fnStampsReadSpec)) fnStampsReadCard

/-- THE SECOND FORM's CARD OF 'laws.FnStampOrder'. -/
def fnStampOrderUptoCard : Claim7 := { stood := { row := fnStampOrderUptoRow, standIns := [], harness := (true, "72eb0fe4f295e47b62165644b250fb2a6fd1e44defa15537dfc0143e4f7c8d10"), looks := false }, kinds := [], alts := [], laidByText := true, laidKinds := [.data, .data, .data, .data, .pinned], laidTests := true, laidLooks := .later }
def FnStampOrderUptoCardSaid : Prop := Claim7.holds Tryd.pinned (.plain (OpenSpec.upto fnStampOrderSpec)) fnStampOrderUptoCard

/-- THE SECOND FORM's CARD OF 'laws.FnStampsRead'. -/
def fnStampsReadUptoCard : Claim7 := { stood := { row := fnStampsReadUptoRow, standIns := [], harness := (true, "72eb0fe4f295e47b62165644b250fb2a6fd1e44defa15537dfc0143e4f7c8d10"), looks := false }, kinds := [], alts := [], laidByText := true, laidKinds := [.data, .data, .data, .data, .pinned], laidTests := true, laidLooks := .later }
def FnStampsReadUptoCardSaid : Prop := Claim7.holds Tryd.pinned (.plain (OpenSpec.upto fnStampsReadSpec)) fnStampsReadUptoCard
end Rows
end Go.Proofs.YtkmomfnmmdlioabDoor
