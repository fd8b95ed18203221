/-
  DERIVED. GIVEN WITH THE SEED: THE CARDS: each row of YtejjimfoihhcoabDoorRows.lean that lists a variable, with what it lists TIED to the program's text (the seventh form; the later family's looks); each row that meets fmt, with fmt's text TOLD by the authors' own Lean function (tested against real Go, not proved from fmt's source: count such statements apart). THE CARD IS WHAT COUNTS. Prove the row's statement (the work); the ties are given (YtejjimfoihhcoabDoorTie.lean); close each card by the builder's one call (the guide's Derived/Test/ToyasCard.lean, 'card_holds'). Laid BY PROGRAM, IN A SANDBOX (cutbox-door.mjs). By AI agents, Wed Nov 11 2026. No macro, syntax, notation, axiom, sorry.
-/
import Derived.Test.YtejjimfoihhcoabDoorRows
import GoSem.ClaimSeven
namespace Go.Proofs.YtejjimfoihhcoabDoor
namespace Rows

/-- THE TIED CARD OF 'laws.FnExactConsistentOf'. -/
def fnExactConsistentOfCard : Claim7 := { stood := { row := fnExactConsistentOfRow, standIns := [], harness := (true, "1af6c85f260e80f2fc657ca7dfec1fe3780a3ae7a41d66eee82ca9f9c7663655"), looks := false }, kinds := [], alts := [], laidByText := true, laidKinds := [.data], laidTests := true, laidLooks := .later }
def FnExactConsistentOfCardSaid : Prop := Claim7.holds Tryd.pinned (.plain (OpenSpec.ofChange fnExactConsistentOfSpec)) fnExactConsistentOfCard

/-- THE TIED CARD OF 'laws.FnExactHalvingRun'. -/
def fnExactHalvingRunCard : Claim7 := { stood := { row := fnExactHalvingRunRow, standIns := [], harness := (true, "1af6c85f260e80f2fc657ca7dfec1fe3780a3ae7a41d66eee82ca9f9c7663655"), looks := false }, kinds := [], alts := [], laidByText := true, laidKinds := [.data], laidTests := true, laidLooks := .later }
def FnExactHalvingRunCardSaid : Prop := Claim7.holds Tryd.pinned (.plain (OpenSpec.ofChange fnExactHalvingRunSpec)) fnExactHalvingRunCard

/-- THE TIED CARD OF 'laws.FnExactLittlestoneOf'. -/
def fnExactLittlestoneOfCard : Claim7 := { stood := { row := fnExactLittlestoneOfRow, standIns := [], harness := (true, "1af6c85f260e80f2fc657ca7dfec1fe3780a3ae7a41d66eee82ca9f9c7663655"), looks := false }, kinds := [], alts := [], laidByText := true, laidKinds := [.data], laidTests := true, laidLooks := .later }
def FnExactLittlestoneOfCardSaid : Prop := Claim7.holds Tryd.pinned (.plain (OpenSpec.ofChange fnExactLittlestoneOfSpec)) fnExactLittlestoneOfCard

/-- THE TIED CARD OF 'laws.FnExactOptimalRun'. -/
def fnExactOptimalRunCard : Claim7 := { stood := { row := fnExactOptimalRunRow, standIns := [], harness := (true, "1af6c85f260e80f2fc657ca7dfec1fe3780a3ae7a41d66eee82ca9f9c7663655"), looks := false }, kinds := [], alts := [], laidByText := true, laidKinds := [.data], laidTests := true, laidLooks := .later }
def FnExactOptimalRunCardSaid : Prop := Claim7.holds Tryd.pinned (.plain (OpenSpec.ofChange fnExactOptimalRunSpec)) fnExactOptimalRunCard

/-- THE TIED CARD OF 'laws.FnExactWorstRun'. -/
def fnExactWorstRunCard : Claim7 := { stood := { row := fnExactWorstRunRow, standIns := [], harness := (true, "1af6c85f260e80f2fc657ca7dfec1fe3780a3ae7a41d66eee82ca9f9c7663655"), looks := false }, kinds := [], alts := [], laidByText := true, laidKinds := [.data], laidTests := true, laidLooks := .later }
def FnExactWorstRunCardSaid : Prop := Claim7.holds Tryd.pinned (.plain (OpenSpec.ofChange fnExactWorstRunSpec)) fnExactWorstRunCard

/-- THE TIED CARD OF 'laws.FnExactMembershipDepth'. -/
def fnExactMembershipDepthCard : Claim7 := { stood := { row := fnExactMembershipDepthRow, standIns := [], harness := (true, "1af6c85f260e80f2fc657ca7dfec1fe3780a3ae7a41d66eee82ca9f9c7663655"), looks := false }, kinds := [], alts := [], laidByText := true, laidKinds := [.data], laidTests := true, laidLooks := .later }
def FnExactMembershipDepthCardSaid : Prop := Claim7.holds Tryd.pinned (.plain (OpenSpec.ofChange fnExactMembershipDepthSpec)) fnExactMembershipDepthCard

/-- THE TIED CARD OF 'laws.FnExactFirstQuestion'. -/
def fnExactFirstQuestionCard : Claim7 := { stood := { row := fnExactFirstQuestionRow, standIns := [], harness := (true, "1af6c85f260e80f2fc657ca7dfec1fe3780a3ae7a41d66eee82ca9f9c7663655"), looks := false }, kinds := [], alts := [], laidByText := true, laidKinds := [.data], laidTests := true, laidLooks := .later }
def FnExactFirstQuestionCardSaid : Prop := Claim7.holds Tryd.pinned (.plain (OpenSpec.ofChange fnExactFirstQuestionSpec)) fnExactFirstQuestionCard

/-- THE TIED CARD OF 'laws.FnExactDisagreementOf'. -/
def fnExactDisagreementOfCard : Claim7 := { stood := { row := fnExactDisagreementOfRow, standIns := [], harness := (true, "1af6c85f260e80f2fc657ca7dfec1fe3780a3ae7a41d66eee82ca9f9c7663655"), looks := false }, kinds := [], alts := [], laidByText := true, laidKinds := [.data], laidTests := true, laidLooks := .later }
def FnExactDisagreementOfCardSaid : Prop := Claim7.holds Tryd.pinned (.plain (OpenSpec.ofChange fnExactDisagreementOfSpec)) fnExactDisagreementOfCard

/-- THE SECOND FORM's CARD OF 'laws.FnExactConsistentOf'. -/
def fnExactConsistentOfUptoCard : Claim7 := { stood := { row := fnExactConsistentOfUptoRow, standIns := [], harness := (true, "1af6c85f260e80f2fc657ca7dfec1fe3780a3ae7a41d66eee82ca9f9c7663655"), looks := false }, kinds := [], alts := [], laidByText := true, laidKinds := [.data], laidTests := true, laidLooks := .later }
def FnExactConsistentOfUptoCardSaid : Prop := Claim7.holds Tryd.pinned (.plain (OpenSpec.upto fnExactConsistentOfSpec)) fnExactConsistentOfUptoCard

/-- THE SECOND FORM's CARD OF 'laws.FnExactHalvingRun'. -/
def fnExactHalvingRunUptoCard : Claim7 := { stood := { row := fnExactHalvingRunUptoRow, standIns := [], harness := (true, "1af6c85f260e80f2fc657ca7dfec1fe3780a3ae7a41d66eee82ca9f9c7663655"), looks := false }, kinds := [], alts := [], laidByText := true, laidKinds := [.data], laidTests := true, laidLooks := .later }
def FnExactHalvingRunUptoCardSaid : Prop := Claim7.holds Tryd.pinned (.plain (OpenSpec.upto fnExactHalvingRunSpec)) fnExactHalvingRunUptoCard

/-- THE SECOND FORM's CARD OF 'laws.FnExactLittlestoneOf'. -/
def fnExactLittlestoneOfUptoCard : Claim7 := { stood := { row := fnExactLittlestoneOfUptoRow, standIns := [], harness := (true, "1af6c85f260e80f2fc657ca7dfec1fe3780a3ae7a41d66eee82ca9f9c7663655"), looks := false }, kinds := [], alts := [], laidByText := true, laidKinds := [.data], laidTests := true, laidLooks := .later }
def FnExactLittlestoneOfUptoCardSaid : Prop := Claim7.holds Tryd.pinned (.plain (OpenSpec.upto fnExactLittlestoneOfSpec)) fnExactLittlestoneOfUptoCard

/-- THE SECOND FORM's CARD OF 'laws.FnExactOptimalRun'. -/
def fnExactOptimalRunUptoCard : Claim7 := { stood := { row := fnExactOptimalRunUptoRow, standIns := [], harness := (true, "1af6c85f260e80f2fc657ca7dfec1fe3780a3ae7a41d66eee82ca9f9c7663655"), looks := false }, kinds := [], alts := [], laidByText := true, laidKinds := [.data], laidTests := true, laidLooks := .later }
def FnExactOptimalRunUptoCardSaid : Prop := Claim7.holds Tryd.pinned (.plain (OpenSpec.upto fnExactOptimalRunSpec)) fnExactOptimalRunUptoCard

/-- THE SECOND FORM's CARD OF 'laws.FnExactWorstRun'. -/
def fnExactWorstRunUptoCard : Claim7 := { stood := { row := fnExactWorstRunUptoRow, standIns := [], harness := (true, "1af6c85f260e80f2fc657ca7dfec1fe3780a3ae7a41d66eee82ca9f9c7663655"), looks := false }, kinds := [], alts := [], laidByText := true, laidKinds := [.data], laidTests := true, laidLooks := .later }
def FnExactWorstRunUptoCardSaid : Prop := Claim7.holds Tryd.pinned (.plain (OpenSpec.upto fnExactWorstRunSpec)) fnExactWorstRunUptoCard

/-- THE SECOND FORM's CARD OF 'laws.FnExactMembershipDepth'. -/
def fnExactMembershipDepthUptoCard : Claim7 := { stood := { row := fnExactMembershipDepthUptoRow, standIns := [], harness := (true, "1af6c85f260e80f2fc657ca7dfec1fe3780a3ae7a41d66eee82ca9f9c7663655"), looks := false }, kinds := [], alts := [], laidByText := true, laidKinds := [.data], laidTests := true, laidLooks := .later }
def FnExactMembershipDepthUptoCardSaid : Prop := Claim7.holds Tryd.pinned (.plain (OpenSpec.upto fnExactMembershipDepthSpec)) fnExactMembershipDepthUptoCard

/-- THE SECOND FORM's CARD OF 'laws.FnExactFirstQuestion'. -/
def fnExactFirstQuestionUptoCard : Claim7 := { stood := { row := fnExactFirstQuestionUptoRow, standIns := [], harness := (true, "1af6c85f260e80f2fc657ca7dfec1fe3780a3ae7a41d66eee82ca9f9c7663655"), looks := false }, kinds := [], alts := [], laidByText := true, laidKinds := [.data], laidTests := true, laidLooks := .later }
def FnExactFirstQuestionUptoCardSaid : Prop := Claim7.holds Tryd.pinned (.plain (OpenSpec.upto fnExactFirstQuestionSpec)) fnExactFirstQuestionUptoCard

/-- THE SECOND FORM's CARD OF 'laws.FnExactDisagreementOf'. -/
def fnExactDisagreementOfUptoCard : Claim7 := { stood := { row := fnExactDisagreementOfUptoRow, standIns := [], harness := (true, "1af6c85f260e80f2fc657ca7dfec1fe3780a3ae7a41d66eee82ca9f9c7663655"), looks := false }, kinds := [], alts := [], laidByText := true, laidKinds := [.data], laidTests := true, laidLooks := .later }
def FnExactDisagreementOfUptoCardSaid : Prop := Claim7.holds Tryd.pinned (.plain (OpenSpec.upto fnExactDisagreementOfSpec)) fnExactDisagreementOfUptoCard
end Rows
end Go.Proofs.YtejjimfoihhcoabDoor
