/-
  NARROWER THAN 'FOR EVERY INPUT', by the rows' own cells (each row's printed sentence says how): FnExactLearnRepresentation: laid · FnLearnRepresentation: laid · FnIsRepresentation: laid · FnIsRepresentationShort: laid · FnExactTeachingsOf: laid · FnExactStarNumber: laid.
  DERIVED. THE GIVEN ROWS OF THIS SEAT. 6 by the template 'for every input the law returns true; each argument reads behind the call as it read before'; 0 by the template 'total and deterministic' (their statements: YtlnnoeicboamgaaDoorTotals.lean).
  GIVEN WITH THE SEED: the statements are not yours to turn. If you find one false, say at which input.
  Laid BY PROGRAM, IN A SANDBOX (cutbox-rows.mjs): the forced cells as the released guide's own fill.sh prints them over the translation 4000f4367acef537… (all of the seat's roots in one cut). By AI agents, Wed Nov 11 2026. No macro, syntax, notation, axiom, sorry.
-/
import Derived.Test.YtlnnoeicboamgaaDoorChecked
import GoSem.Claim
import GoSem.ClaimJoined
import GoSem.ClaimMapViews
import Derived.JoinedTies
import Derived.KernelRfl
namespace Go.Proofs.YtlnnoeicboamgaaDoor
/- THE CELL 'sum', in the pinned program and in every row, IS THE sha256 OF THE DUMP (.gsa) THAT YtlnnoeicboamgaaDoorProg.lean LOADS. Nothing in Lean hashes anything: it is a label: what it is worth is what the hold of that sum in a sandbox is worth. -/
noncomputable def Tryd.pinned : Pinned := { name := "ytlnnoeicboamgaadoor", sum := "4000f4367acef537def2604525e308c67a87f3ec8dfef5aa9cd12c66d5f83f90", checked := Tryd.checked }
namespace Rows
def none {H : Type} : Left H := { results := [], args := [] }

/- WHAT THE LISTED PACKAGE-LEVEL VARIABLES READ AS WHEN THE CALL BEGINS. Each datum BY PROGRAM (the guide's laid-datum.mjs) off the statement by which the dump's own 'gosem.cut.vars' lays the variable. In a bare row this is a premise. The card (YtlnnoeicboamgaaDoorCards.lean) ties it to the program's text. -/
def laid_loop_example_shatteredsets_impl_setsWith {H : Type} : DataW H := .agg [.lit (.int .u32 2863311530), .lit (.int .u32 3435973836), .lit (.int .u32 4042322160), .lit (.int .u32 4278255360), .lit (.int .u32 4294901760)]

/-- 'laws.FnExactLearnRepresentation': WHATEVER THE INPUT: true; the input reads as it did. -/
def fnExactLearnRepresentationSpec : ChangeSpec := { name := "fnExactLearnRepresentation", vars := ["loop.example/shatteredsets/impl.setsWith"], fn := fun _ => fun
  | [d1, d2, d3, g1] => { results := [.lit (.bool true)], args := [d1, d2, d3], vars := [g1] }
  | _ => none }
def fnExactLearnRepresentationRow : OpenClaim := { program := "ytlnnoeicboamgaadoor", sum := "4000f4367acef537def2604525e308c67a87f3ec8dfef5aa9cd12c66d5f83f90", func := "loop.example/shatteredsets/laws.FnExactLearnRepresentation", spec := "fnExactLearnRepresentation", unfollowed := true, recurses := true, named := ["loop.example/shatteredsets/impl.setsWith"], apart := false, laid := [("loop.example/shatteredsets/impl.setsWith", laid_loop_example_shatteredsets_impl_setsWith)] }
def FnExactLearnRepresentationSaid : Prop := fnExactLearnRepresentationRow.holds Tryd.pinned (OpenSpec.ofChange fnExactLearnRepresentationSpec)

/-- ITS FALSE NEIGHBOUR: 'it returns false'. Refute it at one input. -/
def fnExactLearnRepresentationWrong : ChangeSpec := { name := "fnExactLearnRepresentation", vars := ["loop.example/shatteredsets/impl.setsWith"], fn := fun _ => fun
  | [d1, d2, d3, g1] => { results := [.lit (.bool false)], args := [d1, d2, d3], vars := [g1] }
  | _ => none }
def FnExactLearnRepresentationWrongFalsely : Prop := fnExactLearnRepresentationRow.holds Tryd.pinned (OpenSpec.ofChange fnExactLearnRepresentationWrong)

/-- 'laws.FnLearnRepresentation': WHATEVER THE INPUT: true; the input reads as it did. -/
def fnLearnRepresentationSpec : ChangeSpec := { name := "fnLearnRepresentation", vars := ["loop.example/shatteredsets/impl.setsWith"], fn := fun _ => fun
  | [d, g1] => { results := [.lit (.bool true)], args := [d], vars := [g1] }
  | _ => none }
def fnLearnRepresentationRow : OpenClaim := { program := "ytlnnoeicboamgaadoor", sum := "4000f4367acef537def2604525e308c67a87f3ec8dfef5aa9cd12c66d5f83f90", func := "loop.example/shatteredsets/laws.FnLearnRepresentation", spec := "fnLearnRepresentation", unfollowed := true, recurses := true, named := ["loop.example/shatteredsets/impl.setsWith"], apart := false, laid := [("loop.example/shatteredsets/impl.setsWith", laid_loop_example_shatteredsets_impl_setsWith)] }
def FnLearnRepresentationSaid : Prop := fnLearnRepresentationRow.holds Tryd.pinned (OpenSpec.ofChange fnLearnRepresentationSpec)

/-- ITS FALSE NEIGHBOUR: 'it returns false'. Refute it at one input. -/
def fnLearnRepresentationWrong : ChangeSpec := { name := "fnLearnRepresentation", vars := ["loop.example/shatteredsets/impl.setsWith"], fn := fun _ => fun
  | [d, g1] => { results := [.lit (.bool false)], args := [d], vars := [g1] }
  | _ => none }
def FnLearnRepresentationWrongFalsely : Prop := fnLearnRepresentationRow.holds Tryd.pinned (OpenSpec.ofChange fnLearnRepresentationWrong)

/-- 'laws.FnIsRepresentation': WHATEVER THE INPUT: true; the input reads as it did. -/
def fnIsRepresentationSpec : ChangeSpec := { name := "fnIsRepresentation", vars := ["loop.example/shatteredsets/impl.setsWith"], fn := fun _ => fun
  | [d, g1] => { results := [.lit (.bool true)], args := [d], vars := [g1] }
  | _ => none }
def fnIsRepresentationRow : OpenClaim := { program := "ytlnnoeicboamgaadoor", sum := "4000f4367acef537def2604525e308c67a87f3ec8dfef5aa9cd12c66d5f83f90", func := "loop.example/shatteredsets/laws.FnIsRepresentation", spec := "fnIsRepresentation", unfollowed := true, recurses := true, named := ["loop.example/shatteredsets/impl.setsWith"], apart := false, laid := [("loop.example/shatteredsets/impl.setsWith", laid_loop_example_shatteredsets_impl_setsWith)] }
def FnIsRepresentationSaid : Prop := fnIsRepresentationRow.holds Tryd.pinned (OpenSpec.ofChange fnIsRepresentationSpec)

/-- ITS FALSE NEIGHBOUR: 'it returns false'. Refute it at one input. -/
def fnIsRepresentationWrong : ChangeSpec := { name := "fnIsRepresentation", vars := ["loop.example/shatteredsets/impl.setsWith"], fn := fun _ => fun
  | [d, g1] => { results := [.lit (.bool false)], args := [d], vars := [g1] }
  | _ => none }
def FnIsRepresentationWrongFalsely : Prop := fnIsRepresentationRow.holds Tryd.pinned (OpenSpec.ofChange fnIsRepresentationWrong)

/-- 'laws.FnIsRepresentationShort': WHATEVER THE INPUT: true; the input reads as it did. -/
def fnIsRepresentationShortSpec : ChangeSpec := { name := "fnIsRepresentationShort", vars := ["loop.example/shatteredsets/impl.setsWith"], fn := fun _ => fun
  | [d, g1] => { results := [.lit (.bool true)], args := [d], vars := [g1] }
  | _ => none }
def fnIsRepresentationShortRow : OpenClaim := { program := "ytlnnoeicboamgaadoor", sum := "4000f4367acef537def2604525e308c67a87f3ec8dfef5aa9cd12c66d5f83f90", func := "loop.example/shatteredsets/laws.FnIsRepresentationShort", spec := "fnIsRepresentationShort", unfollowed := true, recurses := true, named := ["loop.example/shatteredsets/impl.setsWith"], apart := false, laid := [("loop.example/shatteredsets/impl.setsWith", laid_loop_example_shatteredsets_impl_setsWith)] }
def FnIsRepresentationShortSaid : Prop := fnIsRepresentationShortRow.holds Tryd.pinned (OpenSpec.ofChange fnIsRepresentationShortSpec)

/-- ITS FALSE NEIGHBOUR: 'it returns false'. Refute it at one input. -/
def fnIsRepresentationShortWrong : ChangeSpec := { name := "fnIsRepresentationShort", vars := ["loop.example/shatteredsets/impl.setsWith"], fn := fun _ => fun
  | [d, g1] => { results := [.lit (.bool false)], args := [d], vars := [g1] }
  | _ => none }
def FnIsRepresentationShortWrongFalsely : Prop := fnIsRepresentationShortRow.holds Tryd.pinned (OpenSpec.ofChange fnIsRepresentationShortWrong)

/-- 'laws.FnExactTeachingsOf': WHATEVER THE INPUT: true; the input reads as it did. -/
def fnExactTeachingsOfSpec : ChangeSpec := { name := "fnExactTeachingsOf", vars := ["loop.example/shatteredsets/impl.setsWith"], fn := fun _ => fun
  | [d1, d2, g1] => { results := [.lit (.bool true)], args := [d1, d2], vars := [g1] }
  | _ => none }
def fnExactTeachingsOfRow : OpenClaim := { program := "ytlnnoeicboamgaadoor", sum := "4000f4367acef537def2604525e308c67a87f3ec8dfef5aa9cd12c66d5f83f90", func := "loop.example/shatteredsets/laws.FnExactTeachingsOf", spec := "fnExactTeachingsOf", unfollowed := true, recurses := true, named := ["loop.example/shatteredsets/impl.setsWith"], apart := false, laid := [("loop.example/shatteredsets/impl.setsWith", laid_loop_example_shatteredsets_impl_setsWith)] }
def FnExactTeachingsOfSaid : Prop := fnExactTeachingsOfRow.holds Tryd.pinned (OpenSpec.ofChange fnExactTeachingsOfSpec)

/-- ITS FALSE NEIGHBOUR: 'it returns false'. Refute it at one input. -/
def fnExactTeachingsOfWrong : ChangeSpec := { name := "fnExactTeachingsOf", vars := ["loop.example/shatteredsets/impl.setsWith"], fn := fun _ => fun
  | [d1, d2, g1] => { results := [.lit (.bool false)], args := [d1, d2], vars := [g1] }
  | _ => none }
def FnExactTeachingsOfWrongFalsely : Prop := fnExactTeachingsOfRow.holds Tryd.pinned (OpenSpec.ofChange fnExactTeachingsOfWrong)

/-- 'laws.FnExactStarNumber': WHATEVER THE INPUT: true; the input reads as it did. -/
def fnExactStarNumberSpec : ChangeSpec := { name := "fnExactStarNumber", vars := ["loop.example/shatteredsets/impl.setsWith"], fn := fun _ => fun
  | [d, g1] => { results := [.lit (.bool true)], args := [d], vars := [g1] }
  | _ => none }
def fnExactStarNumberRow : OpenClaim := { program := "ytlnnoeicboamgaadoor", sum := "4000f4367acef537def2604525e308c67a87f3ec8dfef5aa9cd12c66d5f83f90", func := "loop.example/shatteredsets/laws.FnExactStarNumber", spec := "fnExactStarNumber", unfollowed := true, recurses := true, named := ["loop.example/shatteredsets/impl.setsWith"], apart := false, laid := [("loop.example/shatteredsets/impl.setsWith", laid_loop_example_shatteredsets_impl_setsWith)] }
def FnExactStarNumberSaid : Prop := fnExactStarNumberRow.holds Tryd.pinned (OpenSpec.ofChange fnExactStarNumberSpec)

/-- ITS FALSE NEIGHBOUR: 'it returns false'. Refute it at one input. -/
def fnExactStarNumberWrong : ChangeSpec := { name := "fnExactStarNumber", vars := ["loop.example/shatteredsets/impl.setsWith"], fn := fun _ => fun
  | [d, g1] => { results := [.lit (.bool false)], args := [d], vars := [g1] }
  | _ => none }
def FnExactStarNumberWrongFalsely : Prop := fnExactStarNumberRow.holds Tryd.pinned (OpenSpec.ofChange fnExactStarNumberWrong)

/- THE SECOND FORM. 'bulk': how many values and letters a reading holds, each counted each time it is reached (what is shared counts as often as it is met; a slice's spare places count too). A statement '..UptoSaid' is the law's where the arguments, and the package variables that the reading takes, are together of bulk at most 1048576: NARROWER than '..Said'. Prove '..Said' where nothing that the law and all that it calls make is longer than what came in: it says more and counts as full. Else prove '..UptoSaid'. A law counts once. -/
mutual
def uptoBulk {H : Type} : DataW H → Nat
  | .lit (.string bytes) => bytes.length + 1
  | .lit _ => 1
  | .nil => 1
  | .ptr d => uptoBulk d + 1
  | .slice elems spare => uptoBulkAll elems + uptoBulkAll spare + 1
  | .agg parts => uptoBulkAll parts + 1
  | .iface _ d => uptoBulk d + 1
  | .map entries => uptoBulkEntries entries + 1
  | .held _ => 1
def uptoBulkAll {H : Type} : List (DataW H) → Nat
  | [] => 0
  | d :: r => uptoBulk d + uptoBulkAll r
def uptoBulkEntries {H : Type} : List (Lit × DataW H) → Nat
  | [] => 0
  | x :: r => uptoBulkEntry x + uptoBulkEntries r
def uptoBulkEntry {H : Type} : Lit × DataW H → Nat
  | (.string bytes, d) => bytes.length + uptoBulk d + 1
  | (_, d) => uptoBulk d + 1
 end
def uptoSmall : (H : Type) → List (DataW H) → Bool := fun _ ds => decide (uptoBulkAll ds ≤ 1048576)
def OpenSpec.upto (s : _root_.Go.ChangeSpec) : _root_.Go.OpenSpec := { _root_.Go.OpenSpec.ofChange s with cond := some uptoSmall }

/-- 'laws.FnExactLearnRepresentation', WHERE WHAT IT READS IS OF BULK AT MOST 1048576: true; the input reads as it did. -/
def fnExactLearnRepresentationUptoRow : OpenClaim := { program := "ytlnnoeicboamgaadoor", sum := "4000f4367acef537def2604525e308c67a87f3ec8dfef5aa9cd12c66d5f83f90", func := "loop.example/shatteredsets/laws.FnExactLearnRepresentation", spec := "fnExactLearnRepresentation", unfollowed := true, recurses := true, named := ["loop.example/shatteredsets/impl.setsWith"], apart := false, laid := [("loop.example/shatteredsets/impl.setsWith", laid_loop_example_shatteredsets_impl_setsWith)], narrowed := true }
def FnExactLearnRepresentationUptoSaid : Prop := fnExactLearnRepresentationUptoRow.holds Tryd.pinned (OpenSpec.upto fnExactLearnRepresentationSpec)

/-- 'laws.FnLearnRepresentation', WHERE WHAT IT READS IS OF BULK AT MOST 1048576: true; the input reads as it did. -/
def fnLearnRepresentationUptoRow : OpenClaim := { program := "ytlnnoeicboamgaadoor", sum := "4000f4367acef537def2604525e308c67a87f3ec8dfef5aa9cd12c66d5f83f90", func := "loop.example/shatteredsets/laws.FnLearnRepresentation", spec := "fnLearnRepresentation", unfollowed := true, recurses := true, named := ["loop.example/shatteredsets/impl.setsWith"], apart := false, laid := [("loop.example/shatteredsets/impl.setsWith", laid_loop_example_shatteredsets_impl_setsWith)], narrowed := true }
def FnLearnRepresentationUptoSaid : Prop := fnLearnRepresentationUptoRow.holds Tryd.pinned (OpenSpec.upto fnLearnRepresentationSpec)

/-- 'laws.FnIsRepresentation', WHERE WHAT IT READS IS OF BULK AT MOST 1048576: true; the input reads as it did. -/
def fnIsRepresentationUptoRow : OpenClaim := { program := "ytlnnoeicboamgaadoor", sum := "4000f4367acef537def2604525e308c67a87f3ec8dfef5aa9cd12c66d5f83f90", func := "loop.example/shatteredsets/laws.FnIsRepresentation", spec := "fnIsRepresentation", unfollowed := true, recurses := true, named := ["loop.example/shatteredsets/impl.setsWith"], apart := false, laid := [("loop.example/shatteredsets/impl.setsWith", laid_loop_example_shatteredsets_impl_setsWith)], narrowed := true }
def FnIsRepresentationUptoSaid : Prop := fnIsRepresentationUptoRow.holds Tryd.pinned (OpenSpec.upto fnIsRepresentationSpec)

/-- 'laws.FnIsRepresentationShort', WHERE WHAT IT READS IS OF BULK AT MOST 1048576: true; the input reads as it did. -/
def fnIsRepresentationShortUptoRow : OpenClaim := { program := "ytlnnoeicboamgaadoor", sum := "4000f4367acef537def2604525e308c67a87f3ec8dfef5aa9cd12c66d5f83f90", func := "loop.example/shatteredsets/laws.FnIsRepresentationShort", spec := "fnIsRepresentationShort", unfollowed := true, recurses := true, named := ["loop.example/shatteredsets/impl.setsWith"], apart := false, laid := [("loop.example/shatteredsets/impl.setsWith", laid_loop_example_shatteredsets_impl_setsWith)], narrowed := true }
def FnIsRepresentationShortUptoSaid : Prop := fnIsRepresentationShortUptoRow.holds Tryd.pinned (OpenSpec.upto fnIsRepresentationShortSpec)

/-- 'laws.FnExactTeachingsOf', WHERE WHAT IT READS IS OF BULK AT MOST 1048576: true; the input reads as it did. -/
def fnExactTeachingsOfUptoRow : OpenClaim := { program := "ytlnnoeicboamgaadoor", sum := "4000f4367acef537def2604525e308c67a87f3ec8dfef5aa9cd12c66d5f83f90", func := "loop.example/shatteredsets/laws.FnExactTeachingsOf", spec := "fnExactTeachingsOf", unfollowed := true, recurses := true, named := ["loop.example/shatteredsets/impl.setsWith"], apart := false, laid := [("loop.example/shatteredsets/impl.setsWith", laid_loop_example_shatteredsets_impl_setsWith)], narrowed := true }
def FnExactTeachingsOfUptoSaid : Prop := fnExactTeachingsOfUptoRow.holds Tryd.pinned (OpenSpec.upto fnExactTeachingsOfSpec)

/-- 'laws.FnExactStarNumber', WHERE WHAT IT READS IS OF BULK AT MOST 1048576: true; the input reads as it did. -/
def fnExactStarNumberUptoRow : OpenClaim := { program := "ytlnnoeicboamgaadoor", sum := "4000f4367acef537def2604525e308c67a87f3ec8dfef5aa9cd12c66d5f83f90", func := "loop.example/shatteredsets/laws.FnExactStarNumber", spec := "fnExactStarNumber", unfollowed := true, recurses := true, named := ["loop.example/shatteredsets/impl.setsWith"], apart := false, laid := [("loop.example/shatteredsets/impl.setsWith", laid_loop_example_shatteredsets_impl_setsWith)], narrowed := true }
def FnExactStarNumberUptoSaid : Prop := fnExactStarNumberUptoRow.holds Tryd.pinned (OpenSpec.upto fnExactStarNumberSpec)

end Rows
end Go.Proofs.YtlnnoeicboamgaaDoor
