/-
  DERIVED. GIVEN WITH THE SEED: THE CARDS: each row of YtflkalgofkpdbaaDoorRows.lean that lists a variable, with what it lists TIED to the program's text (the seventh form; the later family's looks); each row that meets fmt, with fmt's text TOLD by the authors' own Lean function (tested against real Go, not proved from fmt's source: count such statements apart). THE CARD IS WHAT COUNTS. Prove the row's statement (the work); the ties are given (YtflkalgofkpdbaaDoorTie.lean); close each card by the builder's one call (the guide's Derived/Test/ToyasCard.lean, 'card_holds'). Laid BY PROGRAM, IN A SANDBOX (cutbox-door.mjs). By AI agents, Wed Nov 11 2026. No macro, syntax, notation, axiom, sorry.
-/
import Derived.Test.YtflkalgofkpdbaaDoorRows
import GoSem.ClaimSeven
namespace Go.Proofs.YtflkalgofkpdbaaDoor
namespace Rows

/-- THE TIED CARD OF 'laws.FnExactRegionText'. -/
def fnExactRegionTextCard : Claim7 := { stood := { row := fnExactRegionTextRow, standIns := [], harness := (true, "4d37ff5f936da3bb49fe690b4271d035b9860da45bd94526075a230b8e38ce20"), looks := true }, kinds := [], alts := [], laidByText := true, laidKinds := [.data, .data, .data], laidTests := true, laidLooks := .later }
def FnExactRegionTextCardSaid : Prop := Claim7.holds Tryd.pinned (.plain (OpenSpec.ofChange fnExactRegionTextSpec)) fnExactRegionTextCard

/-- THE TIED CARD OF 'laws.FnExactParseRegion'. -/
def fnExactParseRegionCard : Claim7 := { stood := { row := fnExactParseRegionRow, standIns := [], harness := (true, "4d37ff5f936da3bb49fe690b4271d035b9860da45bd94526075a230b8e38ce20"), looks := true }, kinds := [], alts := [], laidByText := true, laidKinds := [.data, .data, .data, .data, .sentinel, .sentinel, .pinned], laidTests := true, laidLooks := .later }
def FnExactParseRegionCardSaid : Prop := Claim7.holds Tryd.pinned (.plain (OpenSpec.ofChange fnExactParseRegionSpec)) fnExactParseRegionCard

/-- THE SECOND FORM's CARD OF 'laws.FnExactRegionText'. -/
def fnExactRegionTextUptoCard : Claim7 := { stood := { row := fnExactRegionTextUptoRow, standIns := [], harness := (true, "4d37ff5f936da3bb49fe690b4271d035b9860da45bd94526075a230b8e38ce20"), looks := true }, kinds := [], alts := [], laidByText := true, laidKinds := [.data, .data, .data], laidTests := true, laidLooks := .later }
def FnExactRegionTextUptoCardSaid : Prop := Claim7.holds Tryd.pinned (.plain (OpenSpec.upto fnExactRegionTextSpec)) fnExactRegionTextUptoCard

/-- THE SECOND FORM's CARD OF 'laws.FnExactParseRegion'. -/
def fnExactParseRegionUptoCard : Claim7 := { stood := { row := fnExactParseRegionUptoRow, standIns := [], harness := (true, "4d37ff5f936da3bb49fe690b4271d035b9860da45bd94526075a230b8e38ce20"), looks := true }, kinds := [], alts := [], laidByText := true, laidKinds := [.data, .data, .data, .data, .sentinel, .sentinel, .pinned], laidTests := true, laidLooks := .later }
def FnExactParseRegionUptoCardSaid : Prop := Claim7.holds Tryd.pinned (.plain (OpenSpec.upto fnExactParseRegionSpec)) fnExactParseRegionUptoCard
end Rows
end Go.Proofs.YtflkalgofkpdbaaDoor
