/-
  DERIVED. GIVEN WITH THE SEED: THE CARDS: each row of YthjbkjkfibiceaaDoorRows.lean that lists a variable, with what it lists TIED to the program's text (the seventh form; the later family's looks); each row that meets fmt, with fmt's text TOLD by the authors' own Lean function (tested against real Go, not proved from fmt's source: count such statements apart). THE CARD IS WHAT COUNTS. Prove the row's statement (the work); the ties are given (YthjbkjkfibiceaaDoorTie.lean); close each card by the builder's one call (the guide's Derived/Test/ToyasCard.lean, 'card_holds'). Laid BY PROGRAM, IN A SANDBOX (cutbox-door.mjs). By AI agents, Wed Nov 11 2026. No macro, syntax, notation, axiom, sorry.
-/
import Derived.Test.YthjbkjkfibiceaaDoorRows
import GoSem.ClaimSeven
namespace Go.Proofs.YthjbkjkfibiceaaDoor
namespace Rows

/-- THE TIED CARD OF 'laws.FnTeachingNumbers'. -/
def fnTeachingNumbersCard : Claim7 := { stood := { row := fnTeachingNumbersRow, standIns := [], harness := (true, "6c691d484caf83ac25830caac2c2002d93673c1fefa99507b5d983c79c5a7875"), looks := false }, kinds := [], alts := [], laidByText := true, laidKinds := [.data], laidTests := true, laidLooks := .later }
def FnTeachingNumbersCardSaid : Prop := Claim7.holds Tryd.pinned (.plain (OpenSpec.ofChange fnTeachingNumbersSpec)) fnTeachingNumbersCard

/-- THE TIED CARD OF 'laws.FnFirstTeaching'. -/
def fnFirstTeachingCard : Claim7 := { stood := { row := fnFirstTeachingRow, standIns := [], harness := (true, "6c691d484caf83ac25830caac2c2002d93673c1fefa99507b5d983c79c5a7875"), looks := false }, kinds := [], alts := [], laidByText := true, laidKinds := [.data], laidTests := true, laidLooks := .later }
def FnFirstTeachingCardSaid : Prop := Claim7.holds Tryd.pinned (.plain (OpenSpec.ofChange fnFirstTeachingSpec)) fnFirstTeachingCard

/-- THE TIED CARD OF 'laws.FnDisagreementOf'. -/
def fnDisagreementOfCard : Claim7 := { stood := { row := fnDisagreementOfRow, standIns := [], harness := (true, "6c691d484caf83ac25830caac2c2002d93673c1fefa99507b5d983c79c5a7875"), looks := false }, kinds := [], alts := [], laidByText := true, laidKinds := [.data], laidTests := true, laidLooks := .later }
def FnDisagreementOfCardSaid : Prop := Claim7.holds Tryd.pinned (.plain (OpenSpec.ofChange fnDisagreementOfSpec)) fnDisagreementOfCard

/-- THE TIED CARD OF 'laws.FnMajorityOf'. -/
def fnMajorityOfCard : Claim7 := { stood := { row := fnMajorityOfRow, standIns := [], harness := (true, "6c691d484caf83ac25830caac2c2002d93673c1fefa99507b5d983c79c5a7875"), looks := false }, kinds := [], alts := [], laidByText := true, laidKinds := [.data], laidTests := true, laidLooks := .later }
def FnMajorityOfCardSaid : Prop := Claim7.holds Tryd.pinned (.plain (OpenSpec.ofChange fnMajorityOfSpec)) fnMajorityOfCard

/-- THE TIED CARD OF 'laws.FnFirstQuestion'. -/
def fnFirstQuestionCard : Claim7 := { stood := { row := fnFirstQuestionRow, standIns := [], harness := (true, "6c691d484caf83ac25830caac2c2002d93673c1fefa99507b5d983c79c5a7875"), looks := false }, kinds := [], alts := [], laidByText := true, laidKinds := [.data], laidTests := true, laidLooks := .later }
def FnFirstQuestionCardSaid : Prop := Claim7.holds Tryd.pinned (.plain (OpenSpec.ofChange fnFirstQuestionSpec)) fnFirstQuestionCard

/-- THE SECOND FORM's CARD OF 'laws.FnTeachingNumbers'. -/
def fnTeachingNumbersUptoCard : Claim7 := { stood := { row := fnTeachingNumbersUptoRow, standIns := [], harness := (true, "6c691d484caf83ac25830caac2c2002d93673c1fefa99507b5d983c79c5a7875"), looks := false }, kinds := [], alts := [], laidByText := true, laidKinds := [.data], laidTests := true, laidLooks := .later }
def FnTeachingNumbersUptoCardSaid : Prop := Claim7.holds Tryd.pinned (.plain (OpenSpec.upto fnTeachingNumbersSpec)) fnTeachingNumbersUptoCard

/-- THE SECOND FORM's CARD OF 'laws.FnFirstTeaching'. -/
def fnFirstTeachingUptoCard : Claim7 := { stood := { row := fnFirstTeachingUptoRow, standIns := [], harness := (true, "6c691d484caf83ac25830caac2c2002d93673c1fefa99507b5d983c79c5a7875"), looks := false }, kinds := [], alts := [], laidByText := true, laidKinds := [.data], laidTests := true, laidLooks := .later }
def FnFirstTeachingUptoCardSaid : Prop := Claim7.holds Tryd.pinned (.plain (OpenSpec.upto fnFirstTeachingSpec)) fnFirstTeachingUptoCard

/-- THE SECOND FORM's CARD OF 'laws.FnDisagreementOf'. -/
def fnDisagreementOfUptoCard : Claim7 := { stood := { row := fnDisagreementOfUptoRow, standIns := [], harness := (true, "6c691d484caf83ac25830caac2c2002d93673c1fefa99507b5d983c79c5a7875"), looks := false }, kinds := [], alts := [], laidByText := true, laidKinds := [.data], laidTests := true, laidLooks := .later }
def FnDisagreementOfUptoCardSaid : Prop := Claim7.holds Tryd.pinned (.plain (OpenSpec.upto fnDisagreementOfSpec)) fnDisagreementOfUptoCard

/-- THE SECOND FORM's CARD OF 'laws.FnMajorityOf'. -/
def fnMajorityOfUptoCard : Claim7 := { stood := { row := fnMajorityOfUptoRow, standIns := [], harness := (true, "6c691d484caf83ac25830caac2c2002d93673c1fefa99507b5d983c79c5a7875"), looks := false }, kinds := [], alts := [], laidByText := true, laidKinds := [.data], laidTests := true, laidLooks := .later }
def FnMajorityOfUptoCardSaid : Prop := Claim7.holds Tryd.pinned (.plain (OpenSpec.upto fnMajorityOfSpec)) fnMajorityOfUptoCard

/-- THE SECOND FORM's CARD OF 'laws.FnFirstQuestion'. -/
def fnFirstQuestionUptoCard : Claim7 := { stood := { row := fnFirstQuestionUptoRow, standIns := [], harness := (true, "6c691d484caf83ac25830caac2c2002d93673c1fefa99507b5d983c79c5a7875"), looks := false }, kinds := [], alts := [], laidByText := true, laidKinds := [.data], laidTests := true, laidLooks := .later }
def FnFirstQuestionUptoCardSaid : Prop := Claim7.holds Tryd.pinned (.plain (OpenSpec.upto fnFirstQuestionSpec)) fnFirstQuestionUptoCard
end Rows
end Go.Proofs.YthjbkjkfibiceaaDoor
