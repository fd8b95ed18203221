/-
  DERIVED. GIVEN WITH THE SEED: THE CARDS: each row of YtiocaopabkbgpaaDoorRows.lean that lists a variable, with what it lists TIED to the program's text (the seventh form; the later family's looks); each row that meets fmt, with fmt's text TOLD by the authors' own Lean function (tested against real Go, not proved from fmt's source: count such statements apart). THE CARD IS WHAT COUNTS. Prove the row's statement (the work); the ties are given (YtiocaopabkbgpaaDoorTie.lean); close each card by the builder's one call (the guide's Derived/Test/ToyasCard.lean, 'card_holds'). Laid BY PROGRAM, IN A SANDBOX (cutbox-door.mjs). By AI agents, Wed Nov 11 2026. No macro, syntax, notation, axiom, sorry.
-/
import Derived.Test.YtiocaopabkbgpaaDoorRows
import GoSem.ClaimSeven
namespace Go.Proofs.YtiocaopabkbgpaaDoor
namespace Rows

/-- THE TIED CARD OF 'laws.FnConsistentOf'. -/
def fnConsistentOfCard : Claim7 := { stood := { row := fnConsistentOfRow, standIns := [], harness := (true, "5c17d716f09c2de86d571855214bba9d33fbea5acd0b5c840c287cdd971a6fdc"), looks := false }, kinds := [], alts := [], laidByText := true, laidKinds := [.data], laidTests := true, laidLooks := .later }
def FnConsistentOfCardSaid : Prop := Claim7.holds Tryd.pinned (.plain (OpenSpec.ofChange fnConsistentOfSpec)) fnConsistentOfCard

/-- THE TIED CARD OF 'laws.FnLabelsOf'. -/
def fnLabelsOfCard : Claim7 := { stood := { row := fnLabelsOfRow, standIns := [], harness := (true, "5c17d716f09c2de86d571855214bba9d33fbea5acd0b5c840c287cdd971a6fdc"), looks := false }, kinds := [], alts := [], laidByText := true, laidKinds := [.data], laidTests := true, laidLooks := .later }
def FnLabelsOfCardSaid : Prop := Claim7.holds Tryd.pinned (.plain (OpenSpec.ofChange fnLabelsOfSpec)) fnLabelsOfCard

/-- THE TIED CARD OF 'laws.FnHalvingRun'. -/
def fnHalvingRunCard : Claim7 := { stood := { row := fnHalvingRunRow, standIns := [], harness := (true, "5c17d716f09c2de86d571855214bba9d33fbea5acd0b5c840c287cdd971a6fdc"), looks := false }, kinds := [], alts := [], laidByText := true, laidKinds := [.data], laidTests := true, laidLooks := .later }
def FnHalvingRunCardSaid : Prop := Claim7.holds Tryd.pinned (.plain (OpenSpec.ofChange fnHalvingRunSpec)) fnHalvingRunCard

/-- THE TIED CARD OF 'laws.FnOptimalRun'. -/
def fnOptimalRunCard : Claim7 := { stood := { row := fnOptimalRunRow, standIns := [], harness := (true, "5c17d716f09c2de86d571855214bba9d33fbea5acd0b5c840c287cdd971a6fdc"), looks := false }, kinds := [], alts := [], laidByText := true, laidKinds := [.data], laidTests := true, laidLooks := .later }
def FnOptimalRunCardSaid : Prop := Claim7.holds Tryd.pinned (.plain (OpenSpec.ofChange fnOptimalRunSpec)) fnOptimalRunCard

/-- THE TIED CARD OF 'laws.FnBestOf'. -/
def fnBestOfCard : Claim7 := { stood := { row := fnBestOfRow, standIns := [], harness := (true, "5c17d716f09c2de86d571855214bba9d33fbea5acd0b5c840c287cdd971a6fdc"), looks := false }, kinds := [], alts := [], laidByText := true, laidKinds := [.data], laidTests := true, laidLooks := .later }
def FnBestOfCardSaid : Prop := Claim7.holds Tryd.pinned (.plain (OpenSpec.ofChange fnBestOfSpec)) fnBestOfCard

/-- THE TIED CARD OF 'laws.FnThresholdClass'. -/
def fnThresholdClassCard : Claim7 := { stood := { row := fnThresholdClassRow, standIns := [], harness := (true, "5c17d716f09c2de86d571855214bba9d33fbea5acd0b5c840c287cdd971a6fdc"), looks := false }, kinds := [], alts := [], laidByText := true, laidKinds := [.data], laidTests := true, laidLooks := .later }
def FnThresholdClassCardSaid : Prop := Claim7.holds Tryd.pinned (.plain (OpenSpec.ofChange fnThresholdClassSpec)) fnThresholdClassCard

/-- THE TIED CARD OF 'laws.FnWorstRun'. -/
def fnWorstRunCard : Claim7 := { stood := { row := fnWorstRunRow, standIns := [], harness := (true, "5c17d716f09c2de86d571855214bba9d33fbea5acd0b5c840c287cdd971a6fdc"), looks := false }, kinds := [], alts := [], laidByText := true, laidKinds := [.data], laidTests := true, laidLooks := .later }
def FnWorstRunCardSaid : Prop := Claim7.holds Tryd.pinned (.plain (OpenSpec.ofChange fnWorstRunSpec)) fnWorstRunCard

/-- THE TIED CARD OF 'laws.FnIsTeaching'. -/
def fnIsTeachingCard : Claim7 := { stood := { row := fnIsTeachingRow, standIns := [], harness := (true, "5c17d716f09c2de86d571855214bba9d33fbea5acd0b5c840c287cdd971a6fdc"), looks := false }, kinds := [], alts := [], laidByText := true, laidKinds := [.data], laidTests := true, laidLooks := .later }
def FnIsTeachingCardSaid : Prop := Claim7.holds Tryd.pinned (.plain (OpenSpec.ofChange fnIsTeachingSpec)) fnIsTeachingCard

/-- THE SECOND FORM's CARD OF 'laws.FnConsistentOf'. -/
def fnConsistentOfUptoCard : Claim7 := { stood := { row := fnConsistentOfUptoRow, standIns := [], harness := (true, "5c17d716f09c2de86d571855214bba9d33fbea5acd0b5c840c287cdd971a6fdc"), looks := false }, kinds := [], alts := [], laidByText := true, laidKinds := [.data], laidTests := true, laidLooks := .later }
def FnConsistentOfUptoCardSaid : Prop := Claim7.holds Tryd.pinned (.plain (OpenSpec.upto fnConsistentOfSpec)) fnConsistentOfUptoCard

/-- THE SECOND FORM's CARD OF 'laws.FnLabelsOf'. -/
def fnLabelsOfUptoCard : Claim7 := { stood := { row := fnLabelsOfUptoRow, standIns := [], harness := (true, "5c17d716f09c2de86d571855214bba9d33fbea5acd0b5c840c287cdd971a6fdc"), looks := false }, kinds := [], alts := [], laidByText := true, laidKinds := [.data], laidTests := true, laidLooks := .later }
def FnLabelsOfUptoCardSaid : Prop := Claim7.holds Tryd.pinned (.plain (OpenSpec.upto fnLabelsOfSpec)) fnLabelsOfUptoCard

/-- THE SECOND FORM's CARD OF 'laws.FnHalvingRun'. -/
def fnHalvingRunUptoCard : Claim7 := { stood := { row := fnHalvingRunUptoRow, standIns := [], harness := (true, "5c17d716f09c2de86d571855214bba9d33fbea5acd0b5c840c287cdd971a6fdc"), looks := false }, kinds := [], alts := [], laidByText := true, laidKinds := [.data], laidTests := true, laidLooks := .later }
def FnHalvingRunUptoCardSaid : Prop := Claim7.holds Tryd.pinned (.plain (OpenSpec.upto fnHalvingRunSpec)) fnHalvingRunUptoCard

/-- THE SECOND FORM's CARD OF 'laws.FnOptimalRun'. -/
def fnOptimalRunUptoCard : Claim7 := { stood := { row := fnOptimalRunUptoRow, standIns := [], harness := (true, "5c17d716f09c2de86d571855214bba9d33fbea5acd0b5c840c287cdd971a6fdc"), looks := false }, kinds := [], alts := [], laidByText := true, laidKinds := [.data], laidTests := true, laidLooks := .later }
def FnOptimalRunUptoCardSaid : Prop := Claim7.holds Tryd.pinned (.plain (OpenSpec.upto fnOptimalRunSpec)) fnOptimalRunUptoCard

/-- THE SECOND FORM's CARD OF 'laws.FnBestOf'. -/
def fnBestOfUptoCard : Claim7 := { stood := { row := fnBestOfUptoRow, standIns := [], harness := (true, "5c17d716f09c2de86d571855214bba9d33fbea5acd0b5c840c287cdd971a6fdc"), looks := false }, kinds := [], alts := [], laidByText := true, laidKinds := [.data], laidTests := true, laidLooks := .later }
def FnBestOfUptoCardSaid : Prop := Claim7.holds Tryd.pinned (.plain (OpenSpec.upto fnBestOfSpec)) fnBestOfUptoCard

/-- THE SECOND FORM's CARD OF 'laws.FnThresholdClass'. -/
def fnThresholdClassUptoCard : Claim7 := { stood := { row := fnThresholdClassUptoRow, standIns := [], harness := (true, "5c17d716f09c2de86d571855214bba9d33fbea5acd0b5c840c287cdd971a6fdc"), looks := false }, kinds := [], alts := [], laidByText := true, laidKinds := [.data], laidTests := true, laidLooks := .later }
def FnThresholdClassUptoCardSaid : Prop := Claim7.holds Tryd.pinned (.plain (OpenSpec.upto fnThresholdClassSpec)) fnThresholdClassUptoCard

/-- THE SECOND FORM's CARD OF 'laws.FnWorstRun'. -/
def fnWorstRunUptoCard : Claim7 := { stood := { row := fnWorstRunUptoRow, standIns := [], harness := (true, "5c17d716f09c2de86d571855214bba9d33fbea5acd0b5c840c287cdd971a6fdc"), looks := false }, kinds := [], alts := [], laidByText := true, laidKinds := [.data], laidTests := true, laidLooks := .later }
def FnWorstRunUptoCardSaid : Prop := Claim7.holds Tryd.pinned (.plain (OpenSpec.upto fnWorstRunSpec)) fnWorstRunUptoCard

/-- THE SECOND FORM's CARD OF 'laws.FnIsTeaching'. -/
def fnIsTeachingUptoCard : Claim7 := { stood := { row := fnIsTeachingUptoRow, standIns := [], harness := (true, "5c17d716f09c2de86d571855214bba9d33fbea5acd0b5c840c287cdd971a6fdc"), looks := false }, kinds := [], alts := [], laidByText := true, laidKinds := [.data], laidTests := true, laidLooks := .later }
def FnIsTeachingUptoCardSaid : Prop := Claim7.holds Tryd.pinned (.plain (OpenSpec.upto fnIsTeachingSpec)) fnIsTeachingUptoCard
end Rows
end Go.Proofs.YtiocaopabkbgpaaDoor
