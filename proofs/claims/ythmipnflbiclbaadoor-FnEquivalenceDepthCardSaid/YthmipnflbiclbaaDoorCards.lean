/-
  DERIVED. GIVEN WITH THE SEED: THE CARDS: each row of YthmipnflbiclbaaDoorRows.lean that lists a variable, with what it lists TIED to the program's text (the seventh form; the later family's looks); each row that meets fmt, with fmt's text TOLD by the authors' own Lean function (tested against real Go, not proved from fmt's source: count such statements apart). THE CARD IS WHAT COUNTS. Prove the row's statement (the work); the ties are given (YthmipnflbiclbaaDoorTie.lean); close each card by the builder's one call (the guide's Derived/Test/ToyasCard.lean, 'card_holds'). Laid BY PROGRAM, IN A SANDBOX (cutbox-door.mjs). By AI agents, Wed Nov 11 2026. No macro, syntax, notation, axiom, sorry.
-/
import Derived.Test.YthmipnflbiclbaaDoorRows
import GoSem.ClaimSeven
namespace Go.Proofs.YthmipnflbiclbaaDoor
namespace Rows

/-- THE TIED CARD OF 'laws.FnEquivalenceDepth'. -/
def fnEquivalenceDepthCard : Claim7 := { stood := { row := fnEquivalenceDepthRow, standIns := [], harness := (true, "b446f9b7963d59560a5dd9eea607412bd0a18c7fd570e2d05c5b8e8ad0b632ca"), looks := false }, kinds := [], alts := [], laidByText := true, laidKinds := [.data], laidTests := true, laidLooks := .later }
def FnEquivalenceDepthCardSaid : Prop := Claim7.holds Tryd.pinned (.plain (OpenSpec.ofChange fnEquivalenceDepthSpec)) fnEquivalenceDepthCard

/-- THE TIED CARD OF 'laws.FnLayersOf'. -/
def fnLayersOfCard : Claim7 := { stood := { row := fnLayersOfRow, standIns := [], harness := (true, "b446f9b7963d59560a5dd9eea607412bd0a18c7fd570e2d05c5b8e8ad0b632ca"), looks := false }, kinds := [], alts := [], laidByText := true, laidKinds := [.data], laidTests := true, laidLooks := .later }
def FnLayersOfCardSaid : Prop := Claim7.holds Tryd.pinned (.plain (OpenSpec.ofChange fnLayersOfSpec)) fnLayersOfCard

/-- THE TIED CARD OF 'laws.FnTeachingPlan'. -/
def fnTeachingPlanCard : Claim7 := { stood := { row := fnTeachingPlanRow, standIns := [], harness := (true, "b446f9b7963d59560a5dd9eea607412bd0a18c7fd570e2d05c5b8e8ad0b632ca"), looks := false }, kinds := [], alts := [], laidByText := true, laidKinds := [.data], laidTests := true, laidLooks := .later }
def FnTeachingPlanCardSaid : Prop := Claim7.holds Tryd.pinned (.plain (OpenSpec.ofChange fnTeachingPlanSpec)) fnTeachingPlanCard

/-- THE TIED CARD OF 'laws.FnLearnPlan'. -/
def fnLearnPlanCard : Claim7 := { stood := { row := fnLearnPlanRow, standIns := [], harness := (true, "b446f9b7963d59560a5dd9eea607412bd0a18c7fd570e2d05c5b8e8ad0b632ca"), looks := false }, kinds := [], alts := [], laidByText := true, laidKinds := [.data], laidTests := true, laidLooks := .later }
def FnLearnPlanCardSaid : Prop := Claim7.holds Tryd.pinned (.plain (OpenSpec.ofChange fnLearnPlanSpec)) fnLearnPlanCard

/-- THE TIED CARD OF 'laws.FnTeachingsOf'. -/
def fnTeachingsOfCard : Claim7 := { stood := { row := fnTeachingsOfRow, standIns := [], harness := (true, "b446f9b7963d59560a5dd9eea607412bd0a18c7fd570e2d05c5b8e8ad0b632ca"), looks := false }, kinds := [], alts := [], laidByText := true, laidKinds := [.data], laidTests := true, laidLooks := .later }
def FnTeachingsOfCardSaid : Prop := Claim7.holds Tryd.pinned (.plain (OpenSpec.ofChange fnTeachingsOfSpec)) fnTeachingsOfCard

/-- THE TIED CARD OF 'laws.FnExactEquivalenceDepth'. -/
def fnExactEquivalenceDepthCard : Claim7 := { stood := { row := fnExactEquivalenceDepthRow, standIns := [], harness := (true, "b446f9b7963d59560a5dd9eea607412bd0a18c7fd570e2d05c5b8e8ad0b632ca"), looks := false }, kinds := [], alts := [], laidByText := true, laidKinds := [.data], laidTests := true, laidLooks := .later }
def FnExactEquivalenceDepthCardSaid : Prop := Claim7.holds Tryd.pinned (.plain (OpenSpec.ofChange fnExactEquivalenceDepthSpec)) fnExactEquivalenceDepthCard

/-- THE TIED CARD OF 'laws.FnExactLayersOf'. -/
def fnExactLayersOfCard : Claim7 := { stood := { row := fnExactLayersOfRow, standIns := [], harness := (true, "b446f9b7963d59560a5dd9eea607412bd0a18c7fd570e2d05c5b8e8ad0b632ca"), looks := false }, kinds := [], alts := [], laidByText := true, laidKinds := [.data], laidTests := true, laidLooks := .later }
def FnExactLayersOfCardSaid : Prop := Claim7.holds Tryd.pinned (.plain (OpenSpec.ofChange fnExactLayersOfSpec)) fnExactLayersOfCard

/-- THE TIED CARD OF 'laws.FnExactLearnPlan'. -/
def fnExactLearnPlanCard : Claim7 := { stood := { row := fnExactLearnPlanRow, standIns := [], harness := (true, "b446f9b7963d59560a5dd9eea607412bd0a18c7fd570e2d05c5b8e8ad0b632ca"), looks := false }, kinds := [], alts := [], laidByText := true, laidKinds := [.data], laidTests := true, laidLooks := .later }
def FnExactLearnPlanCardSaid : Prop := Claim7.holds Tryd.pinned (.plain (OpenSpec.ofChange fnExactLearnPlanSpec)) fnExactLearnPlanCard

/-- THE SECOND FORM's CARD OF 'laws.FnEquivalenceDepth'. -/
def fnEquivalenceDepthUptoCard : Claim7 := { stood := { row := fnEquivalenceDepthUptoRow, standIns := [], harness := (true, "b446f9b7963d59560a5dd9eea607412bd0a18c7fd570e2d05c5b8e8ad0b632ca"), looks := false }, kinds := [], alts := [], laidByText := true, laidKinds := [.data], laidTests := true, laidLooks := .later }
def FnEquivalenceDepthUptoCardSaid : Prop := Claim7.holds Tryd.pinned (.plain (OpenSpec.upto fnEquivalenceDepthSpec)) fnEquivalenceDepthUptoCard

/-- THE SECOND FORM's CARD OF 'laws.FnLayersOf'. -/
def fnLayersOfUptoCard : Claim7 := { stood := { row := fnLayersOfUptoRow, standIns := [], harness := (true, "b446f9b7963d59560a5dd9eea607412bd0a18c7fd570e2d05c5b8e8ad0b632ca"), looks := false }, kinds := [], alts := [], laidByText := true, laidKinds := [.data], laidTests := true, laidLooks := .later }
def FnLayersOfUptoCardSaid : Prop := Claim7.holds Tryd.pinned (.plain (OpenSpec.upto fnLayersOfSpec)) fnLayersOfUptoCard

/-- THE SECOND FORM's CARD OF 'laws.FnTeachingPlan'. -/
def fnTeachingPlanUptoCard : Claim7 := { stood := { row := fnTeachingPlanUptoRow, standIns := [], harness := (true, "b446f9b7963d59560a5dd9eea607412bd0a18c7fd570e2d05c5b8e8ad0b632ca"), looks := false }, kinds := [], alts := [], laidByText := true, laidKinds := [.data], laidTests := true, laidLooks := .later }
def FnTeachingPlanUptoCardSaid : Prop := Claim7.holds Tryd.pinned (.plain (OpenSpec.upto fnTeachingPlanSpec)) fnTeachingPlanUptoCard

/-- THE SECOND FORM's CARD OF 'laws.FnLearnPlan'. -/
def fnLearnPlanUptoCard : Claim7 := { stood := { row := fnLearnPlanUptoRow, standIns := [], harness := (true, "b446f9b7963d59560a5dd9eea607412bd0a18c7fd570e2d05c5b8e8ad0b632ca"), looks := false }, kinds := [], alts := [], laidByText := true, laidKinds := [.data], laidTests := true, laidLooks := .later }
def FnLearnPlanUptoCardSaid : Prop := Claim7.holds Tryd.pinned (.plain (OpenSpec.upto fnLearnPlanSpec)) fnLearnPlanUptoCard

/-- THE SECOND FORM's CARD OF 'laws.FnTeachingsOf'. -/
def fnTeachingsOfUptoCard : Claim7 := { stood := { row := fnTeachingsOfUptoRow, standIns := [], harness := (true, "b446f9b7963d59560a5dd9eea607412bd0a18c7fd570e2d05c5b8e8ad0b632ca"), looks := false }, kinds := [], alts := [], laidByText := true, laidKinds := [.data], laidTests := true, laidLooks := .later }
def FnTeachingsOfUptoCardSaid : Prop := Claim7.holds Tryd.pinned (.plain (OpenSpec.upto fnTeachingsOfSpec)) fnTeachingsOfUptoCard

/-- THE SECOND FORM's CARD OF 'laws.FnExactEquivalenceDepth'. -/
def fnExactEquivalenceDepthUptoCard : Claim7 := { stood := { row := fnExactEquivalenceDepthUptoRow, standIns := [], harness := (true, "b446f9b7963d59560a5dd9eea607412bd0a18c7fd570e2d05c5b8e8ad0b632ca"), looks := false }, kinds := [], alts := [], laidByText := true, laidKinds := [.data], laidTests := true, laidLooks := .later }
def FnExactEquivalenceDepthUptoCardSaid : Prop := Claim7.holds Tryd.pinned (.plain (OpenSpec.upto fnExactEquivalenceDepthSpec)) fnExactEquivalenceDepthUptoCard

/-- THE SECOND FORM's CARD OF 'laws.FnExactLayersOf'. -/
def fnExactLayersOfUptoCard : Claim7 := { stood := { row := fnExactLayersOfUptoRow, standIns := [], harness := (true, "b446f9b7963d59560a5dd9eea607412bd0a18c7fd570e2d05c5b8e8ad0b632ca"), looks := false }, kinds := [], alts := [], laidByText := true, laidKinds := [.data], laidTests := true, laidLooks := .later }
def FnExactLayersOfUptoCardSaid : Prop := Claim7.holds Tryd.pinned (.plain (OpenSpec.upto fnExactLayersOfSpec)) fnExactLayersOfUptoCard

/-- THE SECOND FORM's CARD OF 'laws.FnExactLearnPlan'. -/
def fnExactLearnPlanUptoCard : Claim7 := { stood := { row := fnExactLearnPlanUptoRow, standIns := [], harness := (true, "b446f9b7963d59560a5dd9eea607412bd0a18c7fd570e2d05c5b8e8ad0b632ca"), looks := false }, kinds := [], alts := [], laidByText := true, laidKinds := [.data], laidTests := true, laidLooks := .later }
def FnExactLearnPlanUptoCardSaid : Prop := Claim7.holds Tryd.pinned (.plain (OpenSpec.upto fnExactLearnPlanSpec)) fnExactLearnPlanUptoCard
end Rows
end Go.Proofs.YthmipnflbiclbaaDoor
