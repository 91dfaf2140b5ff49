/-
  DERIVED. GIVEN WITH THE SEED: THE CARDS: each row of YtekjnfkmjmmcmamDoorRows.lean that lists a variable, with what it lists TIED to the program's text (the seventh form; the later family's looks); each row that meets fmt, with fmt's text TOLD by the authors' own Lean function (tested against real Go, not proved from fmt's source: count such statements apart). THE CARD IS WHAT COUNTS. Prove the row's statement (the work); the ties are given (YtekjnfkmjmmcmamDoorTie.lean); close each card by the builder's one call (the guide's Derived/Test/ToyasCard.lean, 'card_holds'). Laid BY PROGRAM, IN A SANDBOX (cutbox-door.mjs). By AI agents, Wed Nov 11 2026. No macro, syntax, notation, axiom, sorry.
-/
import Derived.Test.YtekjnfkmjmmcmamDoorRows
import GoSem.ClaimSeven
namespace Go.Proofs.YtekjnfkmjmmcmamDoor
namespace Rows

/-- THE TIED CARD OF 'laws.FnExactDevsText'. -/
def fnExactDevsTextCard : Claim7 := { stood := { row := fnExactDevsTextRow, standIns := [], harness := (true, "c21799ce6e67e672ffe247e09cadc3260eae94107908d57237811eb0ccbb02e2"), looks := true }, kinds := [], alts := [], laidByText := true, laidKinds := [.data, .data, .data], laidTests := true, laidLooks := .later }
def FnExactDevsTextCardSaid : Prop := Claim7.holds Tryd.pinned (.plain (OpenSpec.ofChange fnExactDevsTextSpec)) fnExactDevsTextCard

/-- THE TIED CARD OF 'laws.FnExactParseDevs'. -/
def fnExactParseDevsCard : Claim7 := { stood := { row := fnExactParseDevsRow, standIns := [], harness := (true, "c21799ce6e67e672ffe247e09cadc3260eae94107908d57237811eb0ccbb02e2"), looks := true }, kinds := [], alts := [], laidByText := true, laidKinds := [.data, .handle, .pinned], laidTests := true, laidLooks := .later }
def FnExactParseDevsCardSaid : Prop := Claim7.holds Tryd.pinned (.plain (OpenSpec.ofChange fnExactParseDevsSpec)) fnExactParseDevsCard

/-- THE SECOND FORM's CARD OF 'laws.FnExactDevsText'. -/
def fnExactDevsTextUptoCard : Claim7 := { stood := { row := fnExactDevsTextUptoRow, standIns := [], harness := (true, "c21799ce6e67e672ffe247e09cadc3260eae94107908d57237811eb0ccbb02e2"), looks := true }, kinds := [], alts := [], laidByText := true, laidKinds := [.data, .data, .data], laidTests := true, laidLooks := .later }
def FnExactDevsTextUptoCardSaid : Prop := Claim7.holds Tryd.pinned (.plain (OpenSpec.upto fnExactDevsTextSpec)) fnExactDevsTextUptoCard

/-- THE SECOND FORM's CARD OF 'laws.FnExactParseDevs'. -/
def fnExactParseDevsUptoCard : Claim7 := { stood := { row := fnExactParseDevsUptoRow, standIns := [], harness := (true, "c21799ce6e67e672ffe247e09cadc3260eae94107908d57237811eb0ccbb02e2"), looks := true }, kinds := [], alts := [], laidByText := true, laidKinds := [.data, .handle, .pinned], laidTests := true, laidLooks := .later }
def FnExactParseDevsUptoCardSaid : Prop := Claim7.holds Tryd.pinned (.plain (OpenSpec.upto fnExactParseDevsSpec)) fnExactParseDevsUptoCard
end Rows
end Go.Proofs.YtekjnfkmjmmcmamDoor
