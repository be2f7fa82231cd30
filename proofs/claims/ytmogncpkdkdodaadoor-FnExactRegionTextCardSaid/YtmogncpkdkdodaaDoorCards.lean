/-
  DERIVED. GIVEN WITH THE SEED: THE CARDS: each row of YtmogncpkdkdodaaDoorRows.lean that lists a variable, with what it lists TIED to the program's text (the seventh form; the later family's looks); each row that meets fmt, with fmt's text TOLD by the authors' own Lean function (tested against real Go, not proved from fmt's source: count such statements apart). THE CARD IS WHAT COUNTS. Prove the row's statement (the work); the ties are given (YtmogncpkdkdodaaDoorTie.lean); close each card by the builder's one call (the guide's Derived/Test/ToyasCard.lean, 'card_holds'). Laid BY PROGRAM, IN A SANDBOX (cutbox-door.mjs). By AI agents, Wed Nov 11 2026. No macro, syntax, notation, axiom, sorry.
-/
import Derived.Test.YtmogncpkdkdodaaDoorRows
import GoSem.ClaimSeven
namespace Go.Proofs.YtmogncpkdkdodaaDoor
namespace Rows

/-- THE TIED CARD OF 'laws.FnMatrices'. -/
def fnMatricesCard : Claim7 := { stood := { row := fnMatricesRow, standIns := [], harness := (true, "9aa717d63bd1c80a445bde0e6d8b9cd662eefde6fa4b673b855ed385f9a08c89"), looks := true }, kinds := [], alts := [], laidByText := true, laidKinds := [.handle], laidTests := true, laidLooks := .later }
def FnMatricesCardSaid : Prop := Claim7.holds Tryd.pinned (.plain (OpenSpec.ofChange fnMatricesSpec)) fnMatricesCard

/-- THE TIED CARD OF 'laws.FnExactVectorText'. -/
def fnExactVectorTextCard : Claim7 := { stood := { row := fnExactVectorTextRow, standIns := [], harness := (true, "9aa717d63bd1c80a445bde0e6d8b9cd662eefde6fa4b673b855ed385f9a08c89"), looks := true }, kinds := [], alts := [], laidByText := true, laidKinds := [.data, .data, .data], laidTests := true, laidLooks := .later }
def FnExactVectorTextCardSaid : Prop := Claim7.holds Tryd.pinned (.plain (OpenSpec.ofChange fnExactVectorTextSpec)) fnExactVectorTextCard

/-- THE TIED CARD OF 'laws.FnExactRegionText'. -/
def fnExactRegionTextCard : Claim7 := { stood := { row := fnExactRegionTextRow, standIns := [], harness := (true, "9aa717d63bd1c80a445bde0e6d8b9cd662eefde6fa4b673b855ed385f9a08c89"), looks := true }, kinds := [], alts := [], laidByText := true, laidKinds := [.data, .data, .data], laidTests := true, laidLooks := .later }
def FnExactRegionTextCardSaid : Prop := Claim7.holds Tryd.pinned (.plain (OpenSpec.ofChange fnExactRegionTextSpec)) fnExactRegionTextCard

/-- THE TIED CARD OF 'laws.FnExactRationalText'. -/
def fnExactRationalTextCard : Claim7 := { stood := { row := fnExactRationalTextRow, standIns := [], harness := (true, "9aa717d63bd1c80a445bde0e6d8b9cd662eefde6fa4b673b855ed385f9a08c89"), looks := true }, kinds := [], alts := [], laidByText := true, laidKinds := [.data, .data, .data], laidTests := true, laidLooks := .later }
def FnExactRationalTextCardSaid : Prop := Claim7.holds Tryd.pinned (.plain (OpenSpec.ofChange fnExactRationalTextSpec)) fnExactRationalTextCard

/-- THE SECOND FORM's CARD OF 'laws.FnMatrices'. -/
def fnMatricesUptoCard : Claim7 := { stood := { row := fnMatricesUptoRow, standIns := [], harness := (true, "9aa717d63bd1c80a445bde0e6d8b9cd662eefde6fa4b673b855ed385f9a08c89"), looks := true }, kinds := [], alts := [], laidByText := true, laidKinds := [.handle], laidTests := true, laidLooks := .later }
def FnMatricesUptoCardSaid : Prop := Claim7.holds Tryd.pinned (.plain (OpenSpec.upto fnMatricesSpec)) fnMatricesUptoCard

/-- THE SECOND FORM's CARD OF 'laws.FnExactVectorText'. -/
def fnExactVectorTextUptoCard : Claim7 := { stood := { row := fnExactVectorTextUptoRow, standIns := [], harness := (true, "9aa717d63bd1c80a445bde0e6d8b9cd662eefde6fa4b673b855ed385f9a08c89"), looks := true }, kinds := [], alts := [], laidByText := true, laidKinds := [.data, .data, .data], laidTests := true, laidLooks := .later }
def FnExactVectorTextUptoCardSaid : Prop := Claim7.holds Tryd.pinned (.plain (OpenSpec.upto fnExactVectorTextSpec)) fnExactVectorTextUptoCard

/-- THE SECOND FORM's CARD OF 'laws.FnExactRegionText'. -/
def fnExactRegionTextUptoCard : Claim7 := { stood := { row := fnExactRegionTextUptoRow, standIns := [], harness := (true, "9aa717d63bd1c80a445bde0e6d8b9cd662eefde6fa4b673b855ed385f9a08c89"), looks := true }, kinds := [], alts := [], laidByText := true, laidKinds := [.data, .data, .data], laidTests := true, laidLooks := .later }
def FnExactRegionTextUptoCardSaid : Prop := Claim7.holds Tryd.pinned (.plain (OpenSpec.upto fnExactRegionTextSpec)) fnExactRegionTextUptoCard

/-- THE SECOND FORM's CARD OF 'laws.FnExactRationalText'. -/
def fnExactRationalTextUptoCard : Claim7 := { stood := { row := fnExactRationalTextUptoRow, standIns := [], harness := (true, "9aa717d63bd1c80a445bde0e6d8b9cd662eefde6fa4b673b855ed385f9a08c89"), looks := true }, kinds := [], alts := [], laidByText := true, laidKinds := [.data, .data, .data], laidTests := true, laidLooks := .later }
def FnExactRationalTextUptoCardSaid : Prop := Claim7.holds Tryd.pinned (.plain (OpenSpec.upto fnExactRationalTextSpec)) fnExactRationalTextUptoCard
end Rows
end Go.Proofs.YtmogncpkdkdodaaDoor
