/-
  DERIVED. GIVEN WITH THE SEED: THE CARDS: each row of YteenheidomfpkaaDoorRows.lean that lists a variable, with what it lists TIED to the program's text (the seventh form; the later family's looks); each row that meets fmt, with fmt's text TOLD by the authors' own Lean function (tested against real Go, not proved from fmt's source: count such statements apart). THE CARD IS WHAT COUNTS. Prove the row's statement (the work); the ties are given (YteenheidomfpkaaDoorTie.lean); close each card by the builder's one call (the guide's Derived/Test/ToyasCard.lean, 'card_holds'). Laid BY PROGRAM, IN A SANDBOX (cutbox-door.mjs). By AI agents, Wed Nov 11 2026. No macro, syntax, notation, axiom, sorry.
-/
import Derived.Test.YteenheidomfpkaaDoorRows
import GoSem.ClaimSeven
namespace Go.Proofs.YteenheidomfpkaaDoor
namespace Rows

/-- THE TIED CARD OF 'laws.FnExactInverseMatrix'. -/
def fnExactInverseMatrixCard : Claim7 := { stood := { row := fnExactInverseMatrixRow, standIns := [], harness := (true, "a098bd62a32dd4b3413bbe57d466e4c2d9498d1e95ddef36f610466910e9af98"), looks := true }, kinds := [], alts := [], laidByText := true, laidKinds := [.handle], laidTests := true, laidLooks := .later }
def FnExactInverseMatrixCardSaid : Prop := Claim7.holds Tryd.pinned (.plain (OpenSpec.ofChange fnExactInverseMatrixSpec)) fnExactInverseMatrixCard

/-- THE SECOND FORM's CARD OF 'laws.FnExactInverseMatrix'. -/
def fnExactInverseMatrixUptoCard : Claim7 := { stood := { row := fnExactInverseMatrixUptoRow, standIns := [], harness := (true, "a098bd62a32dd4b3413bbe57d466e4c2d9498d1e95ddef36f610466910e9af98"), looks := true }, kinds := [], alts := [], laidByText := true, laidKinds := [.handle], laidTests := true, laidLooks := .later }
def FnExactInverseMatrixUptoCardSaid : Prop := Claim7.holds Tryd.pinned (.plain (OpenSpec.upto fnExactInverseMatrixSpec)) fnExactInverseMatrixUptoCard
end Rows
end Go.Proofs.YteenheidomfpkaaDoor
