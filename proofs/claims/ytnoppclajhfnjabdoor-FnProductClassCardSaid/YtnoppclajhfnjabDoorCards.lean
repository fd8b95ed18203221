/-
  DERIVED. GIVEN WITH THE SEED: THE CARDS: each row of YtnoppclajhfnjabDoorRows.lean that lists a variable, with what it lists TIED to the program's text (the seventh form; the later family's looks); each row that meets fmt, with fmt's text TOLD by the authors' own Lean function (tested against real Go, not proved from fmt's source: count such statements apart). THE CARD IS WHAT COUNTS. Prove the row's statement (the work); the ties are given (YtnoppclajhfnjabDoorTie.lean); close each card by the builder's one call (the guide's Derived/Test/ToyasCard.lean, 'card_holds'). Laid BY PROGRAM, IN A SANDBOX (cutbox-door.mjs). By AI agents, Wed Nov 11 2026. No macro, syntax, notation, axiom, sorry.
-/
import Derived.Test.YtnoppclajhfnjabDoorRows
import GoSem.ClaimSeven
namespace Go.Proofs.YtnoppclajhfnjabDoor
namespace Rows

/-- THE TIED CARD OF 'laws.FnLayersOf'. -/
def fnLayersOfCard : Claim7 := { stood := { row := fnLayersOfRow, standIns := [], harness := (true, "8f3821582f3edad09ed9551361e2e9e676d1d7716ff69ec03c50e1353cf8e329"), looks := false }, kinds := [], alts := [], laidByText := true, laidKinds := [.data], laidTests := true, laidLooks := .later }
def FnLayersOfCardSaid : Prop := Claim7.holds Tryd.pinned (.plain (OpenSpec.ofChange fnLayersOfSpec)) fnLayersOfCard

/-- THE TIED CARD OF 'laws.FnRecursiveDimension'. -/
def fnRecursiveDimensionCard : Claim7 := { stood := { row := fnRecursiveDimensionRow, standIns := [], harness := (true, "8f3821582f3edad09ed9551361e2e9e676d1d7716ff69ec03c50e1353cf8e329"), looks := false }, kinds := [], alts := [], laidByText := true, laidKinds := [.data], laidTests := true, laidLooks := .later }
def FnRecursiveDimensionCardSaid : Prop := Claim7.holds Tryd.pinned (.plain (OpenSpec.ofChange fnRecursiveDimensionSpec)) fnRecursiveDimensionCard

/-- THE TIED CARD OF 'laws.FnLearnPlan'. -/
def fnLearnPlanCard : Claim7 := { stood := { row := fnLearnPlanRow, standIns := [], harness := (true, "8f3821582f3edad09ed9551361e2e9e676d1d7716ff69ec03c50e1353cf8e329"), looks := false }, kinds := [], alts := [], laidByText := true, laidKinds := [.data], laidTests := true, laidLooks := .later }
def FnLearnPlanCardSaid : Prop := Claim7.holds Tryd.pinned (.plain (OpenSpec.ofChange fnLearnPlanSpec)) fnLearnPlanCard

/-- THE TIED CARD OF 'laws.FnTeachingPlan'. -/
def fnTeachingPlanCard : Claim7 := { stood := { row := fnTeachingPlanRow, standIns := [], harness := (true, "8f3821582f3edad09ed9551361e2e9e676d1d7716ff69ec03c50e1353cf8e329"), looks := false }, kinds := [], alts := [], laidByText := true, laidKinds := [.data], laidTests := true, laidLooks := .later }
def FnTeachingPlanCardSaid : Prop := Claim7.holds Tryd.pinned (.plain (OpenSpec.ofChange fnTeachingPlanSpec)) fnTeachingPlanCard

/-- THE TIED CARD OF 'laws.FnRepresentationNumber'. -/
def fnRepresentationNumberCard : Claim7 := { stood := { row := fnRepresentationNumberRow, standIns := [], harness := (true, "8f3821582f3edad09ed9551361e2e9e676d1d7716ff69ec03c50e1353cf8e329"), looks := false }, kinds := [], alts := [], laidByText := true, laidKinds := [.data], laidTests := true, laidLooks := .later }
def FnRepresentationNumberCardSaid : Prop := Claim7.holds Tryd.pinned (.plain (OpenSpec.ofChange fnRepresentationNumberSpec)) fnRepresentationNumberCard

/-- THE TIED CARD OF 'laws.FnExactEquivalenceDepth'. -/
def fnExactEquivalenceDepthCard : Claim7 := { stood := { row := fnExactEquivalenceDepthRow, standIns := [], harness := (true, "8f3821582f3edad09ed9551361e2e9e676d1d7716ff69ec03c50e1353cf8e329"), looks := false }, kinds := [], alts := [], laidByText := true, laidKinds := [.data], laidTests := true, laidLooks := .later }
def FnExactEquivalenceDepthCardSaid : Prop := Claim7.holds Tryd.pinned (.plain (OpenSpec.ofChange fnExactEquivalenceDepthSpec)) fnExactEquivalenceDepthCard

/-- THE TIED CARD OF 'laws.FnEquivalenceDepth'. -/
def fnEquivalenceDepthCard : Claim7 := { stood := { row := fnEquivalenceDepthRow, standIns := [], harness := (true, "8f3821582f3edad09ed9551361e2e9e676d1d7716ff69ec03c50e1353cf8e329"), looks := false }, kinds := [], alts := [], laidByText := true, laidKinds := [.data], laidTests := true, laidLooks := .later }
def FnEquivalenceDepthCardSaid : Prop := Claim7.holds Tryd.pinned (.plain (OpenSpec.ofChange fnEquivalenceDepthSpec)) fnEquivalenceDepthCard

/-- THE TIED CARD OF 'laws.FnProductClass'. -/
def fnProductClassCard : Claim7 := { stood := { row := fnProductClassRow, standIns := [], harness := (true, "8f3821582f3edad09ed9551361e2e9e676d1d7716ff69ec03c50e1353cf8e329"), looks := false }, kinds := [], alts := [], laidByText := true, laidKinds := [.data], laidTests := true, laidLooks := .later }
def FnProductClassCardSaid : Prop := Claim7.holds Tryd.pinned (.plain (OpenSpec.ofChange fnProductClassSpec)) fnProductClassCard

/-- THE SECOND FORM's CARD OF 'laws.FnLayersOf'. -/
def fnLayersOfUptoCard : Claim7 := { stood := { row := fnLayersOfUptoRow, standIns := [], harness := (true, "8f3821582f3edad09ed9551361e2e9e676d1d7716ff69ec03c50e1353cf8e329"), looks := false }, kinds := [], alts := [], laidByText := true, laidKinds := [.data], laidTests := true, laidLooks := .later }
def FnLayersOfUptoCardSaid : Prop := Claim7.holds Tryd.pinned (.plain (OpenSpec.upto fnLayersOfSpec)) fnLayersOfUptoCard

/-- THE SECOND FORM's CARD OF 'laws.FnRecursiveDimension'. -/
def fnRecursiveDimensionUptoCard : Claim7 := { stood := { row := fnRecursiveDimensionUptoRow, standIns := [], harness := (true, "8f3821582f3edad09ed9551361e2e9e676d1d7716ff69ec03c50e1353cf8e329"), looks := false }, kinds := [], alts := [], laidByText := true, laidKinds := [.data], laidTests := true, laidLooks := .later }
def FnRecursiveDimensionUptoCardSaid : Prop := Claim7.holds Tryd.pinned (.plain (OpenSpec.upto fnRecursiveDimensionSpec)) fnRecursiveDimensionUptoCard

/-- THE SECOND FORM's CARD OF 'laws.FnLearnPlan'. -/
def fnLearnPlanUptoCard : Claim7 := { stood := { row := fnLearnPlanUptoRow, standIns := [], harness := (true, "8f3821582f3edad09ed9551361e2e9e676d1d7716ff69ec03c50e1353cf8e329"), looks := false }, kinds := [], alts := [], laidByText := true, laidKinds := [.data], laidTests := true, laidLooks := .later }
def FnLearnPlanUptoCardSaid : Prop := Claim7.holds Tryd.pinned (.plain (OpenSpec.upto fnLearnPlanSpec)) fnLearnPlanUptoCard

/-- THE SECOND FORM's CARD OF 'laws.FnTeachingPlan'. -/
def fnTeachingPlanUptoCard : Claim7 := { stood := { row := fnTeachingPlanUptoRow, standIns := [], harness := (true, "8f3821582f3edad09ed9551361e2e9e676d1d7716ff69ec03c50e1353cf8e329"), looks := false }, kinds := [], alts := [], laidByText := true, laidKinds := [.data], laidTests := true, laidLooks := .later }
def FnTeachingPlanUptoCardSaid : Prop := Claim7.holds Tryd.pinned (.plain (OpenSpec.upto fnTeachingPlanSpec)) fnTeachingPlanUptoCard

/-- THE SECOND FORM's CARD OF 'laws.FnRepresentationNumber'. -/
def fnRepresentationNumberUptoCard : Claim7 := { stood := { row := fnRepresentationNumberUptoRow, standIns := [], harness := (true, "8f3821582f3edad09ed9551361e2e9e676d1d7716ff69ec03c50e1353cf8e329"), looks := false }, kinds := [], alts := [], laidByText := true, laidKinds := [.data], laidTests := true, laidLooks := .later }
def FnRepresentationNumberUptoCardSaid : Prop := Claim7.holds Tryd.pinned (.plain (OpenSpec.upto fnRepresentationNumberSpec)) fnRepresentationNumberUptoCard

/-- THE SECOND FORM's CARD OF 'laws.FnExactEquivalenceDepth'. -/
def fnExactEquivalenceDepthUptoCard : Claim7 := { stood := { row := fnExactEquivalenceDepthUptoRow, standIns := [], harness := (true, "8f3821582f3edad09ed9551361e2e9e676d1d7716ff69ec03c50e1353cf8e329"), looks := false }, kinds := [], alts := [], laidByText := true, laidKinds := [.data], laidTests := true, laidLooks := .later }
def FnExactEquivalenceDepthUptoCardSaid : Prop := Claim7.holds Tryd.pinned (.plain (OpenSpec.upto fnExactEquivalenceDepthSpec)) fnExactEquivalenceDepthUptoCard

/-- THE SECOND FORM's CARD OF 'laws.FnEquivalenceDepth'. -/
def fnEquivalenceDepthUptoCard : Claim7 := { stood := { row := fnEquivalenceDepthUptoRow, standIns := [], harness := (true, "8f3821582f3edad09ed9551361e2e9e676d1d7716ff69ec03c50e1353cf8e329"), looks := false }, kinds := [], alts := [], laidByText := true, laidKinds := [.data], laidTests := true, laidLooks := .later }
def FnEquivalenceDepthUptoCardSaid : Prop := Claim7.holds Tryd.pinned (.plain (OpenSpec.upto fnEquivalenceDepthSpec)) fnEquivalenceDepthUptoCard

/-- THE SECOND FORM's CARD OF 'laws.FnProductClass'. -/
def fnProductClassUptoCard : Claim7 := { stood := { row := fnProductClassUptoRow, standIns := [], harness := (true, "8f3821582f3edad09ed9551361e2e9e676d1d7716ff69ec03c50e1353cf8e329"), looks := false }, kinds := [], alts := [], laidByText := true, laidKinds := [.data], laidTests := true, laidLooks := .later }
def FnProductClassUptoCardSaid : Prop := Claim7.holds Tryd.pinned (.plain (OpenSpec.upto fnProductClassSpec)) fnProductClassUptoCard
end Rows
end Go.Proofs.YtnoppclajhfnjabDoor
