/-
  DERIVED. GIVEN WITH THE SEED: THE CARDS: each row of YtoekgcafhcamjaaGreatDoorRows.lean that lists a variable, with what it lists TIED to the program's text (the seventh form; the later family's looks); each row that meets fmt, with fmt's text TOLD by the authors' own Lean function (tested against real Go, not proved from fmt's source: count such statements apart). THE CARD IS WHAT COUNTS. Prove the row's statement (the work); the ties are given (YtoekgcafhcamjaaGreatDoorTie.lean); close each card by the builder's one call (the guide's Derived/Test/ToyasCard.lean, 'card_holds'). Laid BY PROGRAM, IN A SANDBOX (cutbox-door.mjs). By AI agents, Wed Nov 11 2026. No macro, syntax, notation, axiom, sorry.
-/
import Derived.Test.YtoekgcafhcamjaaGreatDoorRows
import GoSem.ClaimSeven
namespace Go.Proofs.YtoekgcafhcamjaaGreatDoor
namespace Rows

/-- THE TIED CARD OF 'laws.FnVertices'. -/
def fnVerticesCard : Claim7 := { stood := { row := fnVerticesRow, standIns := [], harness := (true, "be82faaebb5c4a2ab49667d01c743ac7f738325f9a7553138a26b87112fe1f74"), looks := true }, kinds := [], alts := [], laidByText := true, laidKinds := [.data, .data, .data], laidTests := true, laidLooks := .later }
def FnVerticesCardSaid : Prop := Claim7.holds Tryz.pinned (.plain (OpenSpec.ofChange fnVerticesSpec)) fnVerticesCard

/-- THE TIED CARD OF 'laws.FnExactParsePolygon'. -/
def fnExactParsePolygonCard : Claim7 := { stood := { row := fnExactParsePolygonRow, standIns := [], harness := (true, "be82faaebb5c4a2ab49667d01c743ac7f738325f9a7553138a26b87112fe1f74"), looks := true }, kinds := [], alts := [], laidByText := true, laidKinds := [.data, .data, .data, .data, .sentinel, .sentinel, .pinned], laidTests := true, laidLooks := .later }
def FnExactParsePolygonCardSaid : Prop := Claim7.holds Tryz.pinned (.plain (OpenSpec.ofChange fnExactParsePolygonSpec)) fnExactParsePolygonCard

/-- THE SECOND FORM's CARD OF 'laws.FnVertices'. -/
def fnVerticesUptoCard : Claim7 := { stood := { row := fnVerticesUptoRow, standIns := [], harness := (true, "be82faaebb5c4a2ab49667d01c743ac7f738325f9a7553138a26b87112fe1f74"), looks := true }, kinds := [], alts := [], laidByText := true, laidKinds := [.data, .data, .data], laidTests := true, laidLooks := .later }
def FnVerticesUptoCardSaid : Prop := Claim7.holds Tryz.pinned (.plain (OpenSpec.upto fnVerticesSpec)) fnVerticesUptoCard

/-- THE SECOND FORM's CARD OF 'laws.FnExactParsePolygon'. -/
def fnExactParsePolygonUptoCard : Claim7 := { stood := { row := fnExactParsePolygonUptoRow, standIns := [], harness := (true, "be82faaebb5c4a2ab49667d01c743ac7f738325f9a7553138a26b87112fe1f74"), looks := true }, kinds := [], alts := [], laidByText := true, laidKinds := [.data, .data, .data, .data, .sentinel, .sentinel, .pinned], laidTests := true, laidLooks := .later }
def FnExactParsePolygonUptoCardSaid : Prop := Claim7.holds Tryz.pinned (.plain (OpenSpec.upto fnExactParsePolygonSpec)) fnExactParsePolygonUptoCard
end Rows
end Go.Proofs.YtoekgcafhcamjaaGreatDoor
