/-
  DERIVED. GIVEN WITH THE SEED: THE CARDS: each row of YtlnnoeicboamgaaDoorRows.lean that lists a variable, with what it lists TIED to the program's text (the seventh form; the later family's looks); each row that meets fmt, with fmt's text TOLD by the authors' own Lean function (tested against real Go, not proved from fmt's source: count such statements apart). THE CARD IS WHAT COUNTS. Prove the row's statement (the work); the ties are given (YtlnnoeicboamgaaDoorTie.lean); close each card by the builder's one call (the guide's Derived/Test/ToyasCard.lean, 'card_holds'). Laid BY PROGRAM, IN A SANDBOX (cutbox-door.mjs). By AI agents, Wed Nov 11 2026. No macro, syntax, notation, axiom, sorry.
-/
import Derived.Test.YtlnnoeicboamgaaDoorRows
import GoSem.ClaimSeven
namespace Go.Proofs.YtlnnoeicboamgaaDoor
namespace Rows

/-- THE TIED CARD OF 'laws.FnExactLearnRepresentation'. -/
def fnExactLearnRepresentationCard : Claim7 := { stood := { row := fnExactLearnRepresentationRow, standIns := [], harness := (true, "53da2537bce123085f062452cece2fcc6c113eff883bcf4985357dbb8e608aed"), looks := false }, kinds := [], alts := [], laidByText := true, laidKinds := [.data], laidTests := true, laidLooks := .later }
def FnExactLearnRepresentationCardSaid : Prop := Claim7.holds Tryd.pinned (.plain (OpenSpec.ofChange fnExactLearnRepresentationSpec)) fnExactLearnRepresentationCard

/-- THE TIED CARD OF 'laws.FnLearnRepresentation'. -/
def fnLearnRepresentationCard : Claim7 := { stood := { row := fnLearnRepresentationRow, standIns := [], harness := (true, "53da2537bce123085f062452cece2fcc6c113eff883bcf4985357dbb8e608aed"), looks := false }, kinds := [], alts := [], laidByText := true, laidKinds := [.data], laidTests := true, laidLooks := .later }
def FnLearnRepresentationCardSaid : Prop := Claim7.holds Tryd.pinned (.plain (OpenSpec.ofChange fnLearnRepresentationSpec)) fnLearnRepresentationCard

/-- THE TIED CARD OF 'laws.FnIsRepresentation'. -/
def fnIsRepresentationCard : Claim7 := { stood := { row := fnIsRepresentationRow, standIns := [], harness := (true, "53da2537bce123085f062452cece2fcc6c113eff883bcf4985357dbb8e608aed"), looks := false }, kinds := [], alts := [], laidByText := true, laidKinds := [.data], laidTests := true, laidLooks := .later }
def FnIsRepresentationCardSaid : Prop := Claim7.holds Tryd.pinned (.plain (OpenSpec.ofChange fnIsRepresentationSpec)) fnIsRepresentationCard

/-- THE TIED CARD OF 'laws.FnIsRepresentationShort'. -/
def fnIsRepresentationShortCard : Claim7 := { stood := { row := fnIsRepresentationShortRow, standIns := [], harness := (true, "53da2537bce123085f062452cece2fcc6c113eff883bcf4985357dbb8e608aed"), looks := false }, kinds := [], alts := [], laidByText := true, laidKinds := [.data], laidTests := true, laidLooks := .later }
def FnIsRepresentationShortCardSaid : Prop := Claim7.holds Tryd.pinned (.plain (OpenSpec.ofChange fnIsRepresentationShortSpec)) fnIsRepresentationShortCard

/-- THE TIED CARD OF 'laws.FnExactTeachingsOf'. -/
def fnExactTeachingsOfCard : Claim7 := { stood := { row := fnExactTeachingsOfRow, standIns := [], harness := (true, "53da2537bce123085f062452cece2fcc6c113eff883bcf4985357dbb8e608aed"), looks := false }, kinds := [], alts := [], laidByText := true, laidKinds := [.data], laidTests := true, laidLooks := .later }
def FnExactTeachingsOfCardSaid : Prop := Claim7.holds Tryd.pinned (.plain (OpenSpec.ofChange fnExactTeachingsOfSpec)) fnExactTeachingsOfCard

/-- THE TIED CARD OF 'laws.FnExactStarNumber'. -/
def fnExactStarNumberCard : Claim7 := { stood := { row := fnExactStarNumberRow, standIns := [], harness := (true, "53da2537bce123085f062452cece2fcc6c113eff883bcf4985357dbb8e608aed"), looks := false }, kinds := [], alts := [], laidByText := true, laidKinds := [.data], laidTests := true, laidLooks := .later }
def FnExactStarNumberCardSaid : Prop := Claim7.holds Tryd.pinned (.plain (OpenSpec.ofChange fnExactStarNumberSpec)) fnExactStarNumberCard

/-- THE SECOND FORM's CARD OF 'laws.FnExactLearnRepresentation'. -/
def fnExactLearnRepresentationUptoCard : Claim7 := { stood := { row := fnExactLearnRepresentationUptoRow, standIns := [], harness := (true, "53da2537bce123085f062452cece2fcc6c113eff883bcf4985357dbb8e608aed"), looks := false }, kinds := [], alts := [], laidByText := true, laidKinds := [.data], laidTests := true, laidLooks := .later }
def FnExactLearnRepresentationUptoCardSaid : Prop := Claim7.holds Tryd.pinned (.plain (OpenSpec.upto fnExactLearnRepresentationSpec)) fnExactLearnRepresentationUptoCard

/-- THE SECOND FORM's CARD OF 'laws.FnLearnRepresentation'. -/
def fnLearnRepresentationUptoCard : Claim7 := { stood := { row := fnLearnRepresentationUptoRow, standIns := [], harness := (true, "53da2537bce123085f062452cece2fcc6c113eff883bcf4985357dbb8e608aed"), looks := false }, kinds := [], alts := [], laidByText := true, laidKinds := [.data], laidTests := true, laidLooks := .later }
def FnLearnRepresentationUptoCardSaid : Prop := Claim7.holds Tryd.pinned (.plain (OpenSpec.upto fnLearnRepresentationSpec)) fnLearnRepresentationUptoCard

/-- THE SECOND FORM's CARD OF 'laws.FnIsRepresentation'. -/
def fnIsRepresentationUptoCard : Claim7 := { stood := { row := fnIsRepresentationUptoRow, standIns := [], harness := (true, "53da2537bce123085f062452cece2fcc6c113eff883bcf4985357dbb8e608aed"), looks := false }, kinds := [], alts := [], laidByText := true, laidKinds := [.data], laidTests := true, laidLooks := .later }
def FnIsRepresentationUptoCardSaid : Prop := Claim7.holds Tryd.pinned (.plain (OpenSpec.upto fnIsRepresentationSpec)) fnIsRepresentationUptoCard

/-- THE SECOND FORM's CARD OF 'laws.FnIsRepresentationShort'. -/
def fnIsRepresentationShortUptoCard : Claim7 := { stood := { row := fnIsRepresentationShortUptoRow, standIns := [], harness := (true, "53da2537bce123085f062452cece2fcc6c113eff883bcf4985357dbb8e608aed"), looks := false }, kinds := [], alts := [], laidByText := true, laidKinds := [.data], laidTests := true, laidLooks := .later }
def FnIsRepresentationShortUptoCardSaid : Prop := Claim7.holds Tryd.pinned (.plain (OpenSpec.upto fnIsRepresentationShortSpec)) fnIsRepresentationShortUptoCard

/-- THE SECOND FORM's CARD OF 'laws.FnExactTeachingsOf'. -/
def fnExactTeachingsOfUptoCard : Claim7 := { stood := { row := fnExactTeachingsOfUptoRow, standIns := [], harness := (true, "53da2537bce123085f062452cece2fcc6c113eff883bcf4985357dbb8e608aed"), looks := false }, kinds := [], alts := [], laidByText := true, laidKinds := [.data], laidTests := true, laidLooks := .later }
def FnExactTeachingsOfUptoCardSaid : Prop := Claim7.holds Tryd.pinned (.plain (OpenSpec.upto fnExactTeachingsOfSpec)) fnExactTeachingsOfUptoCard

/-- THE SECOND FORM's CARD OF 'laws.FnExactStarNumber'. -/
def fnExactStarNumberUptoCard : Claim7 := { stood := { row := fnExactStarNumberUptoRow, standIns := [], harness := (true, "53da2537bce123085f062452cece2fcc6c113eff883bcf4985357dbb8e608aed"), looks := false }, kinds := [], alts := [], laidByText := true, laidKinds := [.data], laidTests := true, laidLooks := .later }
def FnExactStarNumberUptoCardSaid : Prop := Claim7.holds Tryd.pinned (.plain (OpenSpec.upto fnExactStarNumberSpec)) fnExactStarNumberUptoCard
end Rows
end Go.Proofs.YtlnnoeicboamgaaDoor
