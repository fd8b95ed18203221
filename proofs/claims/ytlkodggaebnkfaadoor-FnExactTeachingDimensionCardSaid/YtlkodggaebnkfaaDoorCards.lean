/-
  DERIVED. GIVEN WITH THE SEED: THE CARDS: each row of YtlkodggaebnkfaaDoorRows.lean that lists a variable, with what it lists TIED to the program's text (the seventh form; the later family's looks); each row that meets fmt, with fmt's text TOLD by the authors' own Lean function (tested against real Go, not proved from fmt's source: count such statements apart). THE CARD IS WHAT COUNTS. Prove the row's statement (the work); the ties are given (YtlkodggaebnkfaaDoorTie.lean); close each card by the builder's one call (the guide's Derived/Test/ToyasCard.lean, 'card_holds'). Laid BY PROGRAM, IN A SANDBOX (cutbox-door.mjs). By AI agents, Wed Nov 11 2026. No macro, syntax, notation, axiom, sorry.
-/
import Derived.Test.YtlkodggaebnkfaaDoorRows
import GoSem.ClaimSeven
namespace Go.Proofs.YtlkodggaebnkfaaDoor
namespace Rows

/-- THE TIED CARD OF 'laws.FnExactIsTeaching'. -/
def fnExactIsTeachingCard : Claim7 := { stood := { row := fnExactIsTeachingRow, standIns := [], harness := (true, "7c078750dc20a4633bb3f006ace3f380448ba89e525fe138ef62920b87eb85cc"), looks := false }, kinds := [], alts := [], laidByText := true, laidKinds := [.data], laidTests := true, laidLooks := .later }
def FnExactIsTeachingCardSaid : Prop := Claim7.holds Tryd.pinned (.plain (OpenSpec.ofChange fnExactIsTeachingSpec)) fnExactIsTeachingCard

/-- THE TIED CARD OF 'laws.FnExactFirstTeaching'. -/
def fnExactFirstTeachingCard : Claim7 := { stood := { row := fnExactFirstTeachingRow, standIns := [], harness := (true, "7c078750dc20a4633bb3f006ace3f380448ba89e525fe138ef62920b87eb85cc"), looks := false }, kinds := [], alts := [], laidByText := true, laidKinds := [.data], laidTests := true, laidLooks := .later }
def FnExactFirstTeachingCardSaid : Prop := Claim7.holds Tryd.pinned (.plain (OpenSpec.ofChange fnExactFirstTeachingSpec)) fnExactFirstTeachingCard

/-- THE TIED CARD OF 'laws.FnExactTeachingNumber'. -/
def fnExactTeachingNumberCard : Claim7 := { stood := { row := fnExactTeachingNumberRow, standIns := [], harness := (true, "7c078750dc20a4633bb3f006ace3f380448ba89e525fe138ef62920b87eb85cc"), looks := false }, kinds := [], alts := [], laidByText := true, laidKinds := [.data], laidTests := true, laidLooks := .later }
def FnExactTeachingNumberCardSaid : Prop := Claim7.holds Tryd.pinned (.plain (OpenSpec.ofChange fnExactTeachingNumberSpec)) fnExactTeachingNumberCard

/-- THE TIED CARD OF 'laws.FnExactTeachingNumbers'. -/
def fnExactTeachingNumbersCard : Claim7 := { stood := { row := fnExactTeachingNumbersRow, standIns := [], harness := (true, "7c078750dc20a4633bb3f006ace3f380448ba89e525fe138ef62920b87eb85cc"), looks := false }, kinds := [], alts := [], laidByText := true, laidKinds := [.data], laidTests := true, laidLooks := .later }
def FnExactTeachingNumbersCardSaid : Prop := Claim7.holds Tryd.pinned (.plain (OpenSpec.ofChange fnExactTeachingNumbersSpec)) fnExactTeachingNumbersCard

/-- THE TIED CARD OF 'laws.FnExactTeachingDimension'. -/
def fnExactTeachingDimensionCard : Claim7 := { stood := { row := fnExactTeachingDimensionRow, standIns := [], harness := (true, "7c078750dc20a4633bb3f006ace3f380448ba89e525fe138ef62920b87eb85cc"), looks := false }, kinds := [], alts := [], laidByText := true, laidKinds := [.data], laidTests := true, laidLooks := .later }
def FnExactTeachingDimensionCardSaid : Prop := Claim7.holds Tryd.pinned (.plain (OpenSpec.ofChange fnExactTeachingDimensionSpec)) fnExactTeachingDimensionCard

/-- THE TIED CARD OF 'laws.FnExactEasiestTeaching'. -/
def fnExactEasiestTeachingCard : Claim7 := { stood := { row := fnExactEasiestTeachingRow, standIns := [], harness := (true, "7c078750dc20a4633bb3f006ace3f380448ba89e525fe138ef62920b87eb85cc"), looks := false }, kinds := [], alts := [], laidByText := true, laidKinds := [.data], laidTests := true, laidLooks := .later }
def FnExactEasiestTeachingCardSaid : Prop := Claim7.holds Tryd.pinned (.plain (OpenSpec.ofChange fnExactEasiestTeachingSpec)) fnExactEasiestTeachingCard

/-- THE TIED CARD OF 'laws.FnExactTeachingsOf'. -/
def fnExactTeachingsOfCard : Claim7 := { stood := { row := fnExactTeachingsOfRow, standIns := [], harness := (true, "7c078750dc20a4633bb3f006ace3f380448ba89e525fe138ef62920b87eb85cc"), looks := false }, kinds := [], alts := [], laidByText := true, laidKinds := [.data], laidTests := true, laidLooks := .later }
def FnExactTeachingsOfCardSaid : Prop := Claim7.holds Tryd.pinned (.plain (OpenSpec.ofChange fnExactTeachingsOfSpec)) fnExactTeachingsOfCard

/-- THE TIED CARD OF 'laws.FnExactStarNumber'. -/
def fnExactStarNumberCard : Claim7 := { stood := { row := fnExactStarNumberRow, standIns := [], harness := (true, "7c078750dc20a4633bb3f006ace3f380448ba89e525fe138ef62920b87eb85cc"), looks := false }, kinds := [], alts := [], laidByText := true, laidKinds := [.data], laidTests := true, laidLooks := .later }
def FnExactStarNumberCardSaid : Prop := Claim7.holds Tryd.pinned (.plain (OpenSpec.ofChange fnExactStarNumberSpec)) fnExactStarNumberCard

/-- THE SECOND FORM's CARD OF 'laws.FnExactIsTeaching'. -/
def fnExactIsTeachingUptoCard : Claim7 := { stood := { row := fnExactIsTeachingUptoRow, standIns := [], harness := (true, "7c078750dc20a4633bb3f006ace3f380448ba89e525fe138ef62920b87eb85cc"), looks := false }, kinds := [], alts := [], laidByText := true, laidKinds := [.data], laidTests := true, laidLooks := .later }
def FnExactIsTeachingUptoCardSaid : Prop := Claim7.holds Tryd.pinned (.plain (OpenSpec.upto fnExactIsTeachingSpec)) fnExactIsTeachingUptoCard

/-- THE SECOND FORM's CARD OF 'laws.FnExactFirstTeaching'. -/
def fnExactFirstTeachingUptoCard : Claim7 := { stood := { row := fnExactFirstTeachingUptoRow, standIns := [], harness := (true, "7c078750dc20a4633bb3f006ace3f380448ba89e525fe138ef62920b87eb85cc"), looks := false }, kinds := [], alts := [], laidByText := true, laidKinds := [.data], laidTests := true, laidLooks := .later }
def FnExactFirstTeachingUptoCardSaid : Prop := Claim7.holds Tryd.pinned (.plain (OpenSpec.upto fnExactFirstTeachingSpec)) fnExactFirstTeachingUptoCard

/-- THE SECOND FORM's CARD OF 'laws.FnExactTeachingNumber'. -/
def fnExactTeachingNumberUptoCard : Claim7 := { stood := { row := fnExactTeachingNumberUptoRow, standIns := [], harness := (true, "7c078750dc20a4633bb3f006ace3f380448ba89e525fe138ef62920b87eb85cc"), looks := false }, kinds := [], alts := [], laidByText := true, laidKinds := [.data], laidTests := true, laidLooks := .later }
def FnExactTeachingNumberUptoCardSaid : Prop := Claim7.holds Tryd.pinned (.plain (OpenSpec.upto fnExactTeachingNumberSpec)) fnExactTeachingNumberUptoCard

/-- THE SECOND FORM's CARD OF 'laws.FnExactTeachingNumbers'. -/
def fnExactTeachingNumbersUptoCard : Claim7 := { stood := { row := fnExactTeachingNumbersUptoRow, standIns := [], harness := (true, "7c078750dc20a4633bb3f006ace3f380448ba89e525fe138ef62920b87eb85cc"), looks := false }, kinds := [], alts := [], laidByText := true, laidKinds := [.data], laidTests := true, laidLooks := .later }
def FnExactTeachingNumbersUptoCardSaid : Prop := Claim7.holds Tryd.pinned (.plain (OpenSpec.upto fnExactTeachingNumbersSpec)) fnExactTeachingNumbersUptoCard

/-- THE SECOND FORM's CARD OF 'laws.FnExactTeachingDimension'. -/
def fnExactTeachingDimensionUptoCard : Claim7 := { stood := { row := fnExactTeachingDimensionUptoRow, standIns := [], harness := (true, "7c078750dc20a4633bb3f006ace3f380448ba89e525fe138ef62920b87eb85cc"), looks := false }, kinds := [], alts := [], laidByText := true, laidKinds := [.data], laidTests := true, laidLooks := .later }
def FnExactTeachingDimensionUptoCardSaid : Prop := Claim7.holds Tryd.pinned (.plain (OpenSpec.upto fnExactTeachingDimensionSpec)) fnExactTeachingDimensionUptoCard

/-- THE SECOND FORM's CARD OF 'laws.FnExactEasiestTeaching'. -/
def fnExactEasiestTeachingUptoCard : Claim7 := { stood := { row := fnExactEasiestTeachingUptoRow, standIns := [], harness := (true, "7c078750dc20a4633bb3f006ace3f380448ba89e525fe138ef62920b87eb85cc"), looks := false }, kinds := [], alts := [], laidByText := true, laidKinds := [.data], laidTests := true, laidLooks := .later }
def FnExactEasiestTeachingUptoCardSaid : Prop := Claim7.holds Tryd.pinned (.plain (OpenSpec.upto fnExactEasiestTeachingSpec)) fnExactEasiestTeachingUptoCard

/-- THE SECOND FORM's CARD OF 'laws.FnExactTeachingsOf'. -/
def fnExactTeachingsOfUptoCard : Claim7 := { stood := { row := fnExactTeachingsOfUptoRow, standIns := [], harness := (true, "7c078750dc20a4633bb3f006ace3f380448ba89e525fe138ef62920b87eb85cc"), looks := false }, kinds := [], alts := [], laidByText := true, laidKinds := [.data], laidTests := true, laidLooks := .later }
def FnExactTeachingsOfUptoCardSaid : Prop := Claim7.holds Tryd.pinned (.plain (OpenSpec.upto fnExactTeachingsOfSpec)) fnExactTeachingsOfUptoCard

/-- THE SECOND FORM's CARD OF 'laws.FnExactStarNumber'. -/
def fnExactStarNumberUptoCard : Claim7 := { stood := { row := fnExactStarNumberUptoRow, standIns := [], harness := (true, "7c078750dc20a4633bb3f006ace3f380448ba89e525fe138ef62920b87eb85cc"), looks := false }, kinds := [], alts := [], laidByText := true, laidKinds := [.data], laidTests := true, laidLooks := .later }
def FnExactStarNumberUptoCardSaid : Prop := Claim7.holds Tryd.pinned (.plain (OpenSpec.upto fnExactStarNumberSpec)) fnExactStarNumberUptoCard
end Rows
end Go.Proofs.YtlkodggaebnkfaaDoor
