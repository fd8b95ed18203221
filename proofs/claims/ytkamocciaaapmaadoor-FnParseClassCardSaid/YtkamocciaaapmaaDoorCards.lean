/-
  DERIVED. GIVEN WITH THE SEED: THE CARDS: each row of YtkamocciaaapmaaDoorRows.lean that lists a variable, with what it lists TIED to the program's text (the seventh form; the later family's looks); each row that meets fmt, with fmt's text TOLD by the authors' own Lean function (tested against real Go, not proved from fmt's source: count such statements apart). THE CARD IS WHAT COUNTS. Prove the row's statement (the work); the ties are given (YtkamocciaaapmaaDoorTie.lean); close each card by the builder's one call (the guide's Derived/Test/ToyasCard.lean, 'card_holds'). Laid BY PROGRAM, IN A SANDBOX (cutbox-door.mjs). By AI agents, Wed Nov 11 2026. No macro, syntax, notation, axiom, sorry.
-/
import Derived.Test.YtkamocciaaapmaaDoorRows
import GoSem.ClaimSeven
namespace Go.Proofs.YtkamocciaaapmaaDoor
namespace Rows

/-- THE TIED CARD OF 'laws.FnExactClassText'. -/
def fnExactClassTextCard : Claim7 := { stood := { row := fnExactClassTextRow, standIns := [], harness := (true, "6794c73e8929a888296301da1eb13ac04f9f4dc8bb3d9fa31487deb532f74c85"), looks := true }, kinds := [], alts := [], laidByText := true, laidKinds := [.data, .data, .data], laidTests := true, laidLooks := .later }
def FnExactClassTextCardSaid : Prop := Claim7.holds Tryd.pinned (.plain (OpenSpec.ofChange fnExactClassTextSpec)) fnExactClassTextCard

/-- THE TIED CARD OF 'laws.FnClassText'. -/
def fnClassTextCard : Claim7 := { stood := { row := fnClassTextRow, standIns := [], harness := (true, "6794c73e8929a888296301da1eb13ac04f9f4dc8bb3d9fa31487deb532f74c85"), looks := true }, kinds := [], alts := [], laidByText := true, laidKinds := [.data, .data, .data, .data, .sentinel, .sentinel, .pinned], laidTests := true, laidLooks := .later }
def FnClassTextCardSaid : Prop := Claim7.holds Tryd.pinned (.plain (OpenSpec.ofChange fnClassTextSpec)) fnClassTextCard

/-- THE TIED CARD OF 'laws.FnExactParseClass'. -/
def fnExactParseClassCard : Claim7 := { stood := { row := fnExactParseClassRow, standIns := [], harness := (true, "6794c73e8929a888296301da1eb13ac04f9f4dc8bb3d9fa31487deb532f74c85"), looks := true }, kinds := [], alts := [], laidByText := true, laidKinds := [.data, .data, .data, .data, .sentinel, .sentinel, .pinned], laidTests := true, laidLooks := .later }
def FnExactParseClassCardSaid : Prop := Claim7.holds Tryd.pinned (.plain (OpenSpec.ofChange fnExactParseClassSpec)) fnExactParseClassCard

/-- THE TIED CARD OF 'laws.FnParseClass'. -/
def fnParseClassCard : Claim7 := { stood := { row := fnParseClassRow, standIns := [], harness := (true, "6794c73e8929a888296301da1eb13ac04f9f4dc8bb3d9fa31487deb532f74c85"), looks := true }, kinds := [], alts := [], laidByText := true, laidKinds := [.data, .data, .data, .data, .sentinel, .sentinel, .pinned], laidTests := true, laidLooks := .later }
def FnParseClassCardSaid : Prop := Claim7.holds Tryd.pinned (.plain (OpenSpec.ofChange fnParseClassSpec)) fnParseClassCard

/-- THE SECOND FORM's CARD OF 'laws.FnExactClassText'. -/
def fnExactClassTextUptoCard : Claim7 := { stood := { row := fnExactClassTextUptoRow, standIns := [], harness := (true, "6794c73e8929a888296301da1eb13ac04f9f4dc8bb3d9fa31487deb532f74c85"), looks := true }, kinds := [], alts := [], laidByText := true, laidKinds := [.data, .data, .data], laidTests := true, laidLooks := .later }
def FnExactClassTextUptoCardSaid : Prop := Claim7.holds Tryd.pinned (.plain (OpenSpec.upto fnExactClassTextSpec)) fnExactClassTextUptoCard

/-- THE SECOND FORM's CARD OF 'laws.FnClassText'. -/
def fnClassTextUptoCard : Claim7 := { stood := { row := fnClassTextUptoRow, standIns := [], harness := (true, "6794c73e8929a888296301da1eb13ac04f9f4dc8bb3d9fa31487deb532f74c85"), looks := true }, kinds := [], alts := [], laidByText := true, laidKinds := [.data, .data, .data, .data, .sentinel, .sentinel, .pinned], laidTests := true, laidLooks := .later }
def FnClassTextUptoCardSaid : Prop := Claim7.holds Tryd.pinned (.plain (OpenSpec.upto fnClassTextSpec)) fnClassTextUptoCard

/-- THE SECOND FORM's CARD OF 'laws.FnExactParseClass'. -/
def fnExactParseClassUptoCard : Claim7 := { stood := { row := fnExactParseClassUptoRow, standIns := [], harness := (true, "6794c73e8929a888296301da1eb13ac04f9f4dc8bb3d9fa31487deb532f74c85"), looks := true }, kinds := [], alts := [], laidByText := true, laidKinds := [.data, .data, .data, .data, .sentinel, .sentinel, .pinned], laidTests := true, laidLooks := .later }
def FnExactParseClassUptoCardSaid : Prop := Claim7.holds Tryd.pinned (.plain (OpenSpec.upto fnExactParseClassSpec)) fnExactParseClassUptoCard

/-- THE SECOND FORM's CARD OF 'laws.FnParseClass'. -/
def fnParseClassUptoCard : Claim7 := { stood := { row := fnParseClassUptoRow, standIns := [], harness := (true, "6794c73e8929a888296301da1eb13ac04f9f4dc8bb3d9fa31487deb532f74c85"), looks := true }, kinds := [], alts := [], laidByText := true, laidKinds := [.data, .data, .data, .data, .sentinel, .sentinel, .pinned], laidTests := true, laidLooks := .later }
def FnParseClassUptoCardSaid : Prop := Claim7.holds Tryd.pinned (.plain (OpenSpec.upto fnParseClassSpec)) fnParseClassUptoCard
end Rows
end Go.Proofs.YtkamocciaaapmaaDoor
