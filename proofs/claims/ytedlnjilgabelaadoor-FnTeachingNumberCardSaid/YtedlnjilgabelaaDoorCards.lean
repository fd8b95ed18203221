/-
  DERIVED. GIVEN WITH THE SEED: THE CARDS: each row of YtedlnjilgabelaaDoorRows.lean that lists a variable, with what it lists TIED to the program's text (the seventh form; the later family's looks); each row that meets fmt, with fmt's text TOLD by the authors' own Lean function (tested against real Go, not proved from fmt's source: count such statements apart). THE CARD IS WHAT COUNTS. Prove the row's statement (the work); the ties are given (YtedlnjilgabelaaDoorTie.lean); close each card by the builder's one call (the guide's Derived/Test/ToyasCard.lean, 'card_holds'). Laid BY PROGRAM, IN A SANDBOX (cutbox-door.mjs). By AI agents, Wed Nov 11 2026. No macro, syntax, notation, axiom, sorry.
-/
import Derived.Test.YtedlnjilgabelaaDoorRows
import GoSem.ClaimSeven
namespace Go.Proofs.YtedlnjilgabelaaDoor
namespace Rows

/-- THE TIED CARD OF 'laws.FnTeachingNumber'. -/
def fnTeachingNumberCard : Claim7 := { stood := { row := fnTeachingNumberRow, standIns := [], harness := (true, "422ad5340dde429decdceceb1743ad0998e960ef63d2c1598d5dcaba283f30c8"), looks := false }, kinds := [], alts := [], laidByText := true, laidKinds := [.data], laidTests := true, laidLooks := .later }
def FnTeachingNumberCardSaid : Prop := Claim7.holds Tryd.pinned (.plain (OpenSpec.ofChange fnTeachingNumberSpec)) fnTeachingNumberCard

/-- THE SECOND FORM's CARD OF 'laws.FnTeachingNumber'. -/
def fnTeachingNumberUptoCard : Claim7 := { stood := { row := fnTeachingNumberUptoRow, standIns := [], harness := (true, "422ad5340dde429decdceceb1743ad0998e960ef63d2c1598d5dcaba283f30c8"), looks := false }, kinds := [], alts := [], laidByText := true, laidKinds := [.data], laidTests := true, laidLooks := .later }
def FnTeachingNumberUptoCardSaid : Prop := Claim7.holds Tryd.pinned (.plain (OpenSpec.upto fnTeachingNumberSpec)) fnTeachingNumberUptoCard
end Rows
end Go.Proofs.YtedlnjilgabelaaDoor
