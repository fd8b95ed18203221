/-
  DERIVED. GIVEN WITH THE SEED: THE CARDS: each row of YtffmcibpboejnaaDoorRows.lean that lists a variable, with what it lists TIED to the program's text (the seventh form; the later family's looks); each row that meets fmt, with fmt's text TOLD by the authors' own Lean function (tested against real Go, not proved from fmt's source: count such statements apart). THE CARD IS WHAT COUNTS. Prove the row's statement (the work); the ties are given (YtffmcibpboejnaaDoorTie.lean); close each card by the builder's one call (the guide's Derived/Test/ToyasCard.lean, 'card_holds'). Laid BY PROGRAM, IN A SANDBOX (cutbox-door.mjs). By AI agents, Wed Nov 11 2026. No macro, syntax, notation, axiom, sorry.
-/
import Derived.Test.YtffmcibpboejnaaDoorRows
import GoSem.ClaimSeven
namespace Go.Proofs.YtffmcibpboejnaaDoor
namespace Rows

/-- THE TIED CARD OF 'laws.FnLittlestoneOf'. -/
def fnLittlestoneOfCard : Claim7 := { stood := { row := fnLittlestoneOfRow, standIns := [], harness := (true, "0ae8ff4b277449035a3aceac9b67997c73d4cb91712154694ecceeb911d3b13b"), looks := false }, kinds := [], alts := [], laidByText := true, laidKinds := [.data], laidTests := true, laidLooks := .later }
def FnLittlestoneOfCardSaid : Prop := Claim7.holds Tryd.pinned (.plain (OpenSpec.ofChange fnLittlestoneOfSpec)) fnLittlestoneOfCard

/-- THE TIED CARD OF 'laws.FnMembershipDepth'. -/
def fnMembershipDepthCard : Claim7 := { stood := { row := fnMembershipDepthRow, standIns := [], harness := (true, "0ae8ff4b277449035a3aceac9b67997c73d4cb91712154694ecceeb911d3b13b"), looks := false }, kinds := [], alts := [], laidByText := true, laidKinds := [.data], laidTests := true, laidLooks := .later }
def FnMembershipDepthCardSaid : Prop := Claim7.holds Tryd.pinned (.plain (OpenSpec.ofChange fnMembershipDepthSpec)) fnMembershipDepthCard

/-- THE TIED CARD OF 'laws.FnFlipClass'. -/
def fnFlipClassCard : Claim7 := { stood := { row := fnFlipClassRow, standIns := [], harness := (true, "0ae8ff4b277449035a3aceac9b67997c73d4cb91712154694ecceeb911d3b13b"), looks := false }, kinds := [], alts := [], laidByText := true, laidKinds := [.data], laidTests := true, laidLooks := .later }
def FnFlipClassCardSaid : Prop := Claim7.holds Tryd.pinned (.plain (OpenSpec.ofChange fnFlipClassSpec)) fnFlipClassCard

/-- THE SECOND FORM's CARD OF 'laws.FnLittlestoneOf'. -/
def fnLittlestoneOfUptoCard : Claim7 := { stood := { row := fnLittlestoneOfUptoRow, standIns := [], harness := (true, "0ae8ff4b277449035a3aceac9b67997c73d4cb91712154694ecceeb911d3b13b"), looks := false }, kinds := [], alts := [], laidByText := true, laidKinds := [.data], laidTests := true, laidLooks := .later }
def FnLittlestoneOfUptoCardSaid : Prop := Claim7.holds Tryd.pinned (.plain (OpenSpec.upto fnLittlestoneOfSpec)) fnLittlestoneOfUptoCard

/-- THE SECOND FORM's CARD OF 'laws.FnMembershipDepth'. -/
def fnMembershipDepthUptoCard : Claim7 := { stood := { row := fnMembershipDepthUptoRow, standIns := [], harness := (true, "0ae8ff4b277449035a3aceac9b67997c73d4cb91712154694ecceeb911d3b13b"), looks := false }, kinds := [], alts := [], laidByText := true, laidKinds := [.data], laidTests := true, laidLooks := .later }
def FnMembershipDepthUptoCardSaid : Prop := Claim7.holds Tryd.pinned (.plain (OpenSpec.upto fnMembershipDepthSpec)) fnMembershipDepthUptoCard

/-- THE SECOND FORM's CARD OF 'laws.FnFlipClass'. -/
def fnFlipClassUptoCard : Claim7 := { stood := { row := fnFlipClassUptoRow, standIns := [], harness := (true, "0ae8ff4b277449035a3aceac9b67997c73d4cb91712154694ecceeb911d3b13b"), looks := false }, kinds := [], alts := [], laidByText := true, laidKinds := [.data], laidTests := true, laidLooks := .later }
def FnFlipClassUptoCardSaid : Prop := Claim7.holds Tryd.pinned (.plain (OpenSpec.upto fnFlipClassSpec)) fnFlipClassUptoCard
end Rows
end Go.Proofs.YtffmcibpboejnaaDoor
