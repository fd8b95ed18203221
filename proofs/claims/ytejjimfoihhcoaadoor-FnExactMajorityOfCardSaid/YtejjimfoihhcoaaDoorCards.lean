/-
  DERIVED. GIVEN WITH THE SEED: THE CARDS: each row of YtejjimfoihhcoaaDoorRows.lean that lists a variable, with what it lists TIED to the program's text (the seventh form; the later family's looks); each row that meets fmt, with fmt's text TOLD by the authors' own Lean function (tested against real Go, not proved from fmt's source: count such statements apart). THE CARD IS WHAT COUNTS. Prove the row's statement (the work); the ties are given (YtejjimfoihhcoaaDoorTie.lean); close each card by the builder's one call (the guide's Derived/Test/ToyasCard.lean, 'card_holds'). Laid BY PROGRAM, IN A SANDBOX (cutbox-door.mjs). By AI agents, Wed Nov 11 2026. No macro, syntax, notation, axiom, sorry.
-/
import Derived.Test.YtejjimfoihhcoaaDoorRows
import GoSem.ClaimSeven
namespace Go.Proofs.YtejjimfoihhcoaaDoor
namespace Rows

/-- THE TIED CARD OF 'laws.FnExactMajorityOf'. -/
def fnExactMajorityOfCard : Claim7 := { stood := { row := fnExactMajorityOfRow, standIns := [], harness := (true, "354c55928a351b8ab840ea743726ff8b67f2afc676d54eed5cc9a22b104c57aa"), looks := false }, kinds := [], alts := [], laidByText := true, laidKinds := [.data], laidTests := true, laidLooks := .later }
def FnExactMajorityOfCardSaid : Prop := Claim7.holds Tryd.pinned (.plain (OpenSpec.ofChange fnExactMajorityOfSpec)) fnExactMajorityOfCard

/-- THE SECOND FORM's CARD OF 'laws.FnExactMajorityOf'. -/
def fnExactMajorityOfUptoCard : Claim7 := { stood := { row := fnExactMajorityOfUptoRow, standIns := [], harness := (true, "354c55928a351b8ab840ea743726ff8b67f2afc676d54eed5cc9a22b104c57aa"), looks := false }, kinds := [], alts := [], laidByText := true, laidKinds := [.data], laidTests := true, laidLooks := .later }
def FnExactMajorityOfUptoCardSaid : Prop := Claim7.holds Tryd.pinned (.plain (OpenSpec.upto fnExactMajorityOfSpec)) fnExactMajorityOfUptoCard
end Rows
end Go.Proofs.YtejjimfoihhcoaaDoor
