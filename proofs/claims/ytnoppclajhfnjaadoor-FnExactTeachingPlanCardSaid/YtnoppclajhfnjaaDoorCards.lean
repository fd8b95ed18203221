/-
  DERIVED. GIVEN WITH THE SEED: THE CARDS: each row of YtnoppclajhfnjaaDoorRows.lean that lists a variable, with what it lists TIED to the program's text (the seventh form; the later family's looks); each row that meets fmt, with fmt's text TOLD by the authors' own Lean function (tested against real Go, not proved from fmt's source: count such statements apart). THE CARD IS WHAT COUNTS. Prove the row's statement (the work); the ties are given (YtnoppclajhfnjaaDoorTie.lean); close each card by the builder's one call (the guide's Derived/Test/ToyasCard.lean, 'card_holds'). Laid BY PROGRAM, IN A SANDBOX (cutbox-door.mjs). By AI agents, Wed Nov 11 2026. No macro, syntax, notation, axiom, sorry.
-/
import Derived.Test.YtnoppclajhfnjaaDoorRows
import GoSem.ClaimSeven
namespace Go.Proofs.YtnoppclajhfnjaaDoor
namespace Rows

/-- THE TIED CARD OF 'laws.FnExactStarNumber'. -/
def fnExactStarNumberCard : Claim7 := { stood := { row := fnExactStarNumberRow, standIns := [], harness := (true, "4eeb37126fbd5a0a014e87f445809929ddcd2129da799ec8319773006bc4e48d"), looks := false }, kinds := [], alts := [], laidByText := true, laidKinds := [.data], laidTests := true, laidLooks := .later }
def FnExactStarNumberCardSaid : Prop := Claim7.holds Tryd.pinned (.plain (OpenSpec.ofChange fnExactStarNumberSpec)) fnExactStarNumberCard

/-- THE TIED CARD OF 'laws.FnStarNumber'. -/
def fnStarNumberCard : Claim7 := { stood := { row := fnStarNumberRow, standIns := [], harness := (true, "4eeb37126fbd5a0a014e87f445809929ddcd2129da799ec8319773006bc4e48d"), looks := false }, kinds := [], alts := [], laidByText := true, laidKinds := [.data], laidTests := true, laidLooks := .later }
def FnStarNumberCardSaid : Prop := Claim7.holds Tryd.pinned (.plain (OpenSpec.ofChange fnStarNumberSpec)) fnStarNumberCard

/-- THE TIED CARD OF 'laws.FnTeachingsOf'. -/
def fnTeachingsOfCard : Claim7 := { stood := { row := fnTeachingsOfRow, standIns := [], harness := (true, "4eeb37126fbd5a0a014e87f445809929ddcd2129da799ec8319773006bc4e48d"), looks := false }, kinds := [], alts := [], laidByText := true, laidKinds := [.data], laidTests := true, laidLooks := .later }
def FnTeachingsOfCardSaid : Prop := Claim7.holds Tryd.pinned (.plain (OpenSpec.ofChange fnTeachingsOfSpec)) fnTeachingsOfCard

/-- THE TIED CARD OF 'laws.FnTeachingDimension'. -/
def fnTeachingDimensionCard : Claim7 := { stood := { row := fnTeachingDimensionRow, standIns := [], harness := (true, "4eeb37126fbd5a0a014e87f445809929ddcd2129da799ec8319773006bc4e48d"), looks := false }, kinds := [], alts := [], laidByText := true, laidKinds := [.data], laidTests := true, laidLooks := .later }
def FnTeachingDimensionCardSaid : Prop := Claim7.holds Tryd.pinned (.plain (OpenSpec.ofChange fnTeachingDimensionSpec)) fnTeachingDimensionCard

/-- THE TIED CARD OF 'laws.FnExactLayersOf'. -/
def fnExactLayersOfCard : Claim7 := { stood := { row := fnExactLayersOfRow, standIns := [], harness := (true, "4eeb37126fbd5a0a014e87f445809929ddcd2129da799ec8319773006bc4e48d"), looks := false }, kinds := [], alts := [], laidByText := true, laidKinds := [.data], laidTests := true, laidLooks := .later }
def FnExactLayersOfCardSaid : Prop := Claim7.holds Tryd.pinned (.plain (OpenSpec.ofChange fnExactLayersOfSpec)) fnExactLayersOfCard

/-- THE TIED CARD OF 'laws.FnExactRecursiveDimension'. -/
def fnExactRecursiveDimensionCard : Claim7 := { stood := { row := fnExactRecursiveDimensionRow, standIns := [], harness := (true, "4eeb37126fbd5a0a014e87f445809929ddcd2129da799ec8319773006bc4e48d"), looks := false }, kinds := [], alts := [], laidByText := true, laidKinds := [.data], laidTests := true, laidLooks := .later }
def FnExactRecursiveDimensionCardSaid : Prop := Claim7.holds Tryd.pinned (.plain (OpenSpec.ofChange fnExactRecursiveDimensionSpec)) fnExactRecursiveDimensionCard

/-- THE TIED CARD OF 'laws.FnEasiestTeaching'. -/
def fnEasiestTeachingCard : Claim7 := { stood := { row := fnEasiestTeachingRow, standIns := [], harness := (true, "4eeb37126fbd5a0a014e87f445809929ddcd2129da799ec8319773006bc4e48d"), looks := false }, kinds := [], alts := [], laidByText := true, laidKinds := [.data], laidTests := true, laidLooks := .later }
def FnEasiestTeachingCardSaid : Prop := Claim7.holds Tryd.pinned (.plain (OpenSpec.ofChange fnEasiestTeachingSpec)) fnEasiestTeachingCard

/-- THE TIED CARD OF 'laws.FnExactTeachingPlan'. -/
def fnExactTeachingPlanCard : Claim7 := { stood := { row := fnExactTeachingPlanRow, standIns := [], harness := (true, "4eeb37126fbd5a0a014e87f445809929ddcd2129da799ec8319773006bc4e48d"), looks := false }, kinds := [], alts := [], laidByText := true, laidKinds := [.data], laidTests := true, laidLooks := .later }
def FnExactTeachingPlanCardSaid : Prop := Claim7.holds Tryd.pinned (.plain (OpenSpec.ofChange fnExactTeachingPlanSpec)) fnExactTeachingPlanCard

/-- THE TIED CARD OF 'laws.FnExactLearnPlan'. -/
def fnExactLearnPlanCard : Claim7 := { stood := { row := fnExactLearnPlanRow, standIns := [], harness := (true, "4eeb37126fbd5a0a014e87f445809929ddcd2129da799ec8319773006bc4e48d"), looks := false }, kinds := [], alts := [], laidByText := true, laidKinds := [.data], laidTests := true, laidLooks := .later }
def FnExactLearnPlanCardSaid : Prop := Claim7.holds Tryd.pinned (.plain (OpenSpec.ofChange fnExactLearnPlanSpec)) fnExactLearnPlanCard

/-- THE SECOND FORM's CARD OF 'laws.FnExactStarNumber'. -/
def fnExactStarNumberUptoCard : Claim7 := { stood := { row := fnExactStarNumberUptoRow, standIns := [], harness := (true, "4eeb37126fbd5a0a014e87f445809929ddcd2129da799ec8319773006bc4e48d"), looks := false }, kinds := [], alts := [], laidByText := true, laidKinds := [.data], laidTests := true, laidLooks := .later }
def FnExactStarNumberUptoCardSaid : Prop := Claim7.holds Tryd.pinned (.plain (OpenSpec.upto fnExactStarNumberSpec)) fnExactStarNumberUptoCard

/-- THE SECOND FORM's CARD OF 'laws.FnStarNumber'. -/
def fnStarNumberUptoCard : Claim7 := { stood := { row := fnStarNumberUptoRow, standIns := [], harness := (true, "4eeb37126fbd5a0a014e87f445809929ddcd2129da799ec8319773006bc4e48d"), looks := false }, kinds := [], alts := [], laidByText := true, laidKinds := [.data], laidTests := true, laidLooks := .later }
def FnStarNumberUptoCardSaid : Prop := Claim7.holds Tryd.pinned (.plain (OpenSpec.upto fnStarNumberSpec)) fnStarNumberUptoCard

/-- THE SECOND FORM's CARD OF 'laws.FnTeachingsOf'. -/
def fnTeachingsOfUptoCard : Claim7 := { stood := { row := fnTeachingsOfUptoRow, standIns := [], harness := (true, "4eeb37126fbd5a0a014e87f445809929ddcd2129da799ec8319773006bc4e48d"), looks := false }, kinds := [], alts := [], laidByText := true, laidKinds := [.data], laidTests := true, laidLooks := .later }
def FnTeachingsOfUptoCardSaid : Prop := Claim7.holds Tryd.pinned (.plain (OpenSpec.upto fnTeachingsOfSpec)) fnTeachingsOfUptoCard

/-- THE SECOND FORM's CARD OF 'laws.FnTeachingDimension'. -/
def fnTeachingDimensionUptoCard : Claim7 := { stood := { row := fnTeachingDimensionUptoRow, standIns := [], harness := (true, "4eeb37126fbd5a0a014e87f445809929ddcd2129da799ec8319773006bc4e48d"), looks := false }, kinds := [], alts := [], laidByText := true, laidKinds := [.data], laidTests := true, laidLooks := .later }
def FnTeachingDimensionUptoCardSaid : Prop := Claim7.holds Tryd.pinned (.plain (OpenSpec.upto fnTeachingDimensionSpec)) fnTeachingDimensionUptoCard

/-- THE SECOND FORM's CARD OF 'laws.FnExactLayersOf'. -/
def fnExactLayersOfUptoCard : Claim7 := { stood := { row := fnExactLayersOfUptoRow, standIns := [], harness := (true, "4eeb37126fbd5a0a014e87f445809929ddcd2129da799ec8319773006bc4e48d"), looks := false }, kinds := [], alts := [], laidByText := true, laidKinds := [.data], laidTests := true, laidLooks := .later }
def FnExactLayersOfUptoCardSaid : Prop := Claim7.holds Tryd.pinned (.plain (OpenSpec.upto fnExactLayersOfSpec)) fnExactLayersOfUptoCard

/-- THE SECOND FORM's CARD OF 'laws.FnExactRecursiveDimension'. -/
def fnExactRecursiveDimensionUptoCard : Claim7 := { stood := { row := fnExactRecursiveDimensionUptoRow, standIns := [], harness := (true, "4eeb37126fbd5a0a014e87f445809929ddcd2129da799ec8319773006bc4e48d"), looks := false }, kinds := [], alts := [], laidByText := true, laidKinds := [.data], laidTests := true, laidLooks := .later }
def FnExactRecursiveDimensionUptoCardSaid : Prop := Claim7.holds Tryd.pinned (.plain (OpenSpec.upto fnExactRecursiveDimensionSpec)) fnExactRecursiveDimensionUptoCard

/-- THE SECOND FORM's CARD OF 'laws.FnEasiestTeaching'. -/
def fnEasiestTeachingUptoCard : Claim7 := { stood := { row := fnEasiestTeachingUptoRow, standIns := [], harness := (true, "4eeb37126fbd5a0a014e87f445809929ddcd2129da799ec8319773006bc4e48d"), looks := false }, kinds := [], alts := [], laidByText := true, laidKinds := [.data], laidTests := true, laidLooks := .later }
def FnEasiestTeachingUptoCardSaid : Prop := Claim7.holds Tryd.pinned (.plain (OpenSpec.upto fnEasiestTeachingSpec)) fnEasiestTeachingUptoCard

/-- THE SECOND FORM's CARD OF 'laws.FnExactTeachingPlan'. -/
def fnExactTeachingPlanUptoCard : Claim7 := { stood := { row := fnExactTeachingPlanUptoRow, standIns := [], harness := (true, "4eeb37126fbd5a0a014e87f445809929ddcd2129da799ec8319773006bc4e48d"), looks := false }, kinds := [], alts := [], laidByText := true, laidKinds := [.data], laidTests := true, laidLooks := .later }
def FnExactTeachingPlanUptoCardSaid : Prop := Claim7.holds Tryd.pinned (.plain (OpenSpec.upto fnExactTeachingPlanSpec)) fnExactTeachingPlanUptoCard

/-- THE SECOND FORM's CARD OF 'laws.FnExactLearnPlan'. -/
def fnExactLearnPlanUptoCard : Claim7 := { stood := { row := fnExactLearnPlanUptoRow, standIns := [], harness := (true, "4eeb37126fbd5a0a014e87f445809929ddcd2129da799ec8319773006bc4e48d"), looks := false }, kinds := [], alts := [], laidByText := true, laidKinds := [.data], laidTests := true, laidLooks := .later }
def FnExactLearnPlanUptoCardSaid : Prop := Claim7.holds Tryd.pinned (.plain (OpenSpec.upto fnExactLearnPlanSpec)) fnExactLearnPlanUptoCard
end Rows
end Go.Proofs.YtnoppclajhfnjaaDoor
