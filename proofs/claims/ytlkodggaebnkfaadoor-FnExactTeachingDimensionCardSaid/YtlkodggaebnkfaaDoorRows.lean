/-
  NARROWER THAN 'FOR EVERY INPUT', by the rows' own cells (each row's printed sentence says how): FnExactIsTeaching: laid · FnExactFirstTeaching: laid · FnExactTeachingNumber: laid · FnExactTeachingNumbers: laid · FnExactTeachingDimension: laid · FnExactEasiestTeaching: laid · FnExactTeachingsOf: laid · FnExactStarNumber: laid.
  DERIVED. THE GIVEN ROWS OF THIS SEAT. 8 by the template 'for every input the law returns true; each argument reads behind the call as it read before'; 0 by the template 'total and deterministic' (their statements: YtlkodggaebnkfaaDoorTotals.lean).
  GIVEN WITH THE SEED: the statements are not yours to turn. If you find one false, say at which input.
  Laid BY PROGRAM, IN A SANDBOX (cutbox-rows.mjs): the forced cells as the released guide's own fill.sh prints them over the translation 864332cea61d1889… (all of the seat's roots in one cut). By AI agents, Wed Nov 11 2026. No macro, syntax, notation, axiom, sorry.
-/
import Derived.Test.YtlkodggaebnkfaaDoorChecked
import GoSem.Claim
import GoSem.ClaimJoined
import GoSem.ClaimMapViews
import Derived.JoinedTies
import Derived.KernelRfl
namespace Go.Proofs.YtlkodggaebnkfaaDoor
/- THE CELL 'sum', in the pinned program and in every row, IS THE sha256 OF THE DUMP (.gsa) THAT YtlkodggaebnkfaaDoorProg.lean LOADS. Nothing in Lean hashes anything: it is a label: what it is worth is what the hold of that sum in a sandbox is worth. -/
noncomputable def Tryd.pinned : Pinned := { name := "ytlkodggaebnkfaadoor", sum := "864332cea61d188915e5559dcf410c3bfaec1be295dfa387244b9f4f19389e62", checked := Tryd.checked }
namespace Rows
def none {H : Type} : Left H := { results := [], args := [] }

/- WHAT THE LISTED PACKAGE-LEVEL VARIABLES READ AS WHEN THE CALL BEGINS. Each datum BY PROGRAM (the guide's laid-datum.mjs) off the statement by which the dump's own 'gosem.cut.vars' lays the variable. In a bare row this is a premise. The card (YtlkodggaebnkfaaDoorCards.lean) ties it to the program's text. -/
def laid_loop_example_shatteredsets_impl_setsWith {H : Type} : DataW H := .agg [.lit (.int .u32 2863311530), .lit (.int .u32 3435973836), .lit (.int .u32 4042322160), .lit (.int .u32 4278255360), .lit (.int .u32 4294901760)]

/-- 'laws.FnExactIsTeaching': WHATEVER THE INPUT: true; the input reads as it did. -/
def fnExactIsTeachingSpec : ChangeSpec := { name := "fnExactIsTeaching", vars := ["loop.example/shatteredsets/impl.setsWith"], fn := fun _ => fun
  | [d1, d2, d3, g1] => { results := [.lit (.bool true)], args := [d1, d2, d3], vars := [g1] }
  | _ => none }
def fnExactIsTeachingRow : OpenClaim := { program := "ytlkodggaebnkfaadoor", sum := "864332cea61d188915e5559dcf410c3bfaec1be295dfa387244b9f4f19389e62", func := "loop.example/shatteredsets/laws.FnExactIsTeaching", spec := "fnExactIsTeaching", unfollowed := true, recurses := true, named := ["loop.example/shatteredsets/impl.setsWith"], apart := false, laid := [("loop.example/shatteredsets/impl.setsWith", laid_loop_example_shatteredsets_impl_setsWith)] }
def FnExactIsTeachingSaid : Prop := fnExactIsTeachingRow.holds Tryd.pinned (OpenSpec.ofChange fnExactIsTeachingSpec)

/-- ITS FALSE NEIGHBOUR: 'it returns false'. Refute it at one input. -/
def fnExactIsTeachingWrong : ChangeSpec := { name := "fnExactIsTeaching", vars := ["loop.example/shatteredsets/impl.setsWith"], fn := fun _ => fun
  | [d1, d2, d3, g1] => { results := [.lit (.bool false)], args := [d1, d2, d3], vars := [g1] }
  | _ => none }
def FnExactIsTeachingWrongFalsely : Prop := fnExactIsTeachingRow.holds Tryd.pinned (OpenSpec.ofChange fnExactIsTeachingWrong)

/-- 'laws.FnExactFirstTeaching': WHATEVER THE INPUT: true; the input reads as it did. -/
def fnExactFirstTeachingSpec : ChangeSpec := { name := "fnExactFirstTeaching", vars := ["loop.example/shatteredsets/impl.setsWith"], fn := fun _ => fun
  | [d1, d2, g1] => { results := [.lit (.bool true)], args := [d1, d2], vars := [g1] }
  | _ => none }
def fnExactFirstTeachingRow : OpenClaim := { program := "ytlkodggaebnkfaadoor", sum := "864332cea61d188915e5559dcf410c3bfaec1be295dfa387244b9f4f19389e62", func := "loop.example/shatteredsets/laws.FnExactFirstTeaching", spec := "fnExactFirstTeaching", unfollowed := true, recurses := true, named := ["loop.example/shatteredsets/impl.setsWith"], apart := false, laid := [("loop.example/shatteredsets/impl.setsWith", laid_loop_example_shatteredsets_impl_setsWith)] }
def FnExactFirstTeachingSaid : Prop := fnExactFirstTeachingRow.holds Tryd.pinned (OpenSpec.ofChange fnExactFirstTeachingSpec)

/-- ITS FALSE NEIGHBOUR: 'it returns false'. Refute it at one input. -/
def fnExactFirstTeachingWrong : ChangeSpec := { name := "fnExactFirstTeaching", vars := ["loop.example/shatteredsets/impl.setsWith"], fn := fun _ => fun
  | [d1, d2, g1] => { results := [.lit (.bool false)], args := [d1, d2], vars := [g1] }
  | _ => none }
def FnExactFirstTeachingWrongFalsely : Prop := fnExactFirstTeachingRow.holds Tryd.pinned (OpenSpec.ofChange fnExactFirstTeachingWrong)

/-- 'laws.FnExactTeachingNumber': WHATEVER THE INPUT: true; the input reads as it did. -/
def fnExactTeachingNumberSpec : ChangeSpec := { name := "fnExactTeachingNumber", vars := ["loop.example/shatteredsets/impl.setsWith"], fn := fun _ => fun
  | [d1, d2, g1] => { results := [.lit (.bool true)], args := [d1, d2], vars := [g1] }
  | _ => none }
def fnExactTeachingNumberRow : OpenClaim := { program := "ytlkodggaebnkfaadoor", sum := "864332cea61d188915e5559dcf410c3bfaec1be295dfa387244b9f4f19389e62", func := "loop.example/shatteredsets/laws.FnExactTeachingNumber", spec := "fnExactTeachingNumber", unfollowed := true, recurses := true, named := ["loop.example/shatteredsets/impl.setsWith"], apart := false, laid := [("loop.example/shatteredsets/impl.setsWith", laid_loop_example_shatteredsets_impl_setsWith)] }
def FnExactTeachingNumberSaid : Prop := fnExactTeachingNumberRow.holds Tryd.pinned (OpenSpec.ofChange fnExactTeachingNumberSpec)

/-- ITS FALSE NEIGHBOUR: 'it returns false'. Refute it at one input. -/
def fnExactTeachingNumberWrong : ChangeSpec := { name := "fnExactTeachingNumber", vars := ["loop.example/shatteredsets/impl.setsWith"], fn := fun _ => fun
  | [d1, d2, g1] => { results := [.lit (.bool false)], args := [d1, d2], vars := [g1] }
  | _ => none }
def FnExactTeachingNumberWrongFalsely : Prop := fnExactTeachingNumberRow.holds Tryd.pinned (OpenSpec.ofChange fnExactTeachingNumberWrong)

/-- 'laws.FnExactTeachingNumbers': WHATEVER THE INPUT: true; the input reads as it did. -/
def fnExactTeachingNumbersSpec : ChangeSpec := { name := "fnExactTeachingNumbers", vars := ["loop.example/shatteredsets/impl.setsWith"], fn := fun _ => fun
  | [d, g1] => { results := [.lit (.bool true)], args := [d], vars := [g1] }
  | _ => none }
def fnExactTeachingNumbersRow : OpenClaim := { program := "ytlkodggaebnkfaadoor", sum := "864332cea61d188915e5559dcf410c3bfaec1be295dfa387244b9f4f19389e62", func := "loop.example/shatteredsets/laws.FnExactTeachingNumbers", spec := "fnExactTeachingNumbers", unfollowed := true, recurses := true, named := ["loop.example/shatteredsets/impl.setsWith"], apart := false, laid := [("loop.example/shatteredsets/impl.setsWith", laid_loop_example_shatteredsets_impl_setsWith)] }
def FnExactTeachingNumbersSaid : Prop := fnExactTeachingNumbersRow.holds Tryd.pinned (OpenSpec.ofChange fnExactTeachingNumbersSpec)

/-- ITS FALSE NEIGHBOUR: 'it returns false'. Refute it at one input. -/
def fnExactTeachingNumbersWrong : ChangeSpec := { name := "fnExactTeachingNumbers", vars := ["loop.example/shatteredsets/impl.setsWith"], fn := fun _ => fun
  | [d, g1] => { results := [.lit (.bool false)], args := [d], vars := [g1] }
  | _ => none }
def FnExactTeachingNumbersWrongFalsely : Prop := fnExactTeachingNumbersRow.holds Tryd.pinned (OpenSpec.ofChange fnExactTeachingNumbersWrong)

/-- 'laws.FnExactTeachingDimension': WHATEVER THE INPUT: true; the input reads as it did. -/
def fnExactTeachingDimensionSpec : ChangeSpec := { name := "fnExactTeachingDimension", vars := ["loop.example/shatteredsets/impl.setsWith"], fn := fun _ => fun
  | [d, g1] => { results := [.lit (.bool true)], args := [d], vars := [g1] }
  | _ => none }
def fnExactTeachingDimensionRow : OpenClaim := { program := "ytlkodggaebnkfaadoor", sum := "864332cea61d188915e5559dcf410c3bfaec1be295dfa387244b9f4f19389e62", func := "loop.example/shatteredsets/laws.FnExactTeachingDimension", spec := "fnExactTeachingDimension", unfollowed := true, recurses := true, named := ["loop.example/shatteredsets/impl.setsWith"], apart := false, laid := [("loop.example/shatteredsets/impl.setsWith", laid_loop_example_shatteredsets_impl_setsWith)] }
def FnExactTeachingDimensionSaid : Prop := fnExactTeachingDimensionRow.holds Tryd.pinned (OpenSpec.ofChange fnExactTeachingDimensionSpec)

/-- ITS FALSE NEIGHBOUR: 'it returns false'. Refute it at one input. -/
def fnExactTeachingDimensionWrong : ChangeSpec := { name := "fnExactTeachingDimension", vars := ["loop.example/shatteredsets/impl.setsWith"], fn := fun _ => fun
  | [d, g1] => { results := [.lit (.bool false)], args := [d], vars := [g1] }
  | _ => none }
def FnExactTeachingDimensionWrongFalsely : Prop := fnExactTeachingDimensionRow.holds Tryd.pinned (OpenSpec.ofChange fnExactTeachingDimensionWrong)

/-- 'laws.FnExactEasiestTeaching': WHATEVER THE INPUT: true; the input reads as it did. -/
def fnExactEasiestTeachingSpec : ChangeSpec := { name := "fnExactEasiestTeaching", vars := ["loop.example/shatteredsets/impl.setsWith"], fn := fun _ => fun
  | [d, g1] => { results := [.lit (.bool true)], args := [d], vars := [g1] }
  | _ => none }
def fnExactEasiestTeachingRow : OpenClaim := { program := "ytlkodggaebnkfaadoor", sum := "864332cea61d188915e5559dcf410c3bfaec1be295dfa387244b9f4f19389e62", func := "loop.example/shatteredsets/laws.FnExactEasiestTeaching", spec := "fnExactEasiestTeaching", unfollowed := true, recurses := true, named := ["loop.example/shatteredsets/impl.setsWith"], apart := false, laid := [("loop.example/shatteredsets/impl.setsWith", laid_loop_example_shatteredsets_impl_setsWith)] }
def FnExactEasiestTeachingSaid : Prop := fnExactEasiestTeachingRow.holds Tryd.pinned (OpenSpec.ofChange fnExactEasiestTeachingSpec)

/-- ITS FALSE NEIGHBOUR: 'it returns false'. Refute it at one input. -/
def fnExactEasiestTeachingWrong : ChangeSpec := { name := "fnExactEasiestTeaching", vars := ["loop.example/shatteredsets/impl.setsWith"], fn := fun _ => fun
  | [d, g1] => { results := [.lit (.bool false)], args := [d], vars := [g1] }
  | _ => none }
def FnExactEasiestTeachingWrongFalsely : Prop := fnExactEasiestTeachingRow.holds Tryd.pinned (OpenSpec.ofChange fnExactEasiestTeachingWrong)

/-- 'laws.FnExactTeachingsOf': WHATEVER THE INPUT: true; the input reads as it did. -/
def fnExactTeachingsOfSpec : ChangeSpec := { name := "fnExactTeachingsOf", vars := ["loop.example/shatteredsets/impl.setsWith"], fn := fun _ => fun
  | [d1, d2, g1] => { results := [.lit (.bool true)], args := [d1, d2], vars := [g1] }
  | _ => none }
def fnExactTeachingsOfRow : OpenClaim := { program := "ytlkodggaebnkfaadoor", sum := "864332cea61d188915e5559dcf410c3bfaec1be295dfa387244b9f4f19389e62", func := "loop.example/shatteredsets/laws.FnExactTeachingsOf", spec := "fnExactTeachingsOf", unfollowed := true, recurses := true, named := ["loop.example/shatteredsets/impl.setsWith"], apart := false, laid := [("loop.example/shatteredsets/impl.setsWith", laid_loop_example_shatteredsets_impl_setsWith)] }
def FnExactTeachingsOfSaid : Prop := fnExactTeachingsOfRow.holds Tryd.pinned (OpenSpec.ofChange fnExactTeachingsOfSpec)

/-- ITS FALSE NEIGHBOUR: 'it returns false'. Refute it at one input. -/
def fnExactTeachingsOfWrong : ChangeSpec := { name := "fnExactTeachingsOf", vars := ["loop.example/shatteredsets/impl.setsWith"], fn := fun _ => fun
  | [d1, d2, g1] => { results := [.lit (.bool false)], args := [d1, d2], vars := [g1] }
  | _ => none }
def FnExactTeachingsOfWrongFalsely : Prop := fnExactTeachingsOfRow.holds Tryd.pinned (OpenSpec.ofChange fnExactTeachingsOfWrong)

/-- 'laws.FnExactStarNumber': WHATEVER THE INPUT: true; the input reads as it did. -/
def fnExactStarNumberSpec : ChangeSpec := { name := "fnExactStarNumber", vars := ["loop.example/shatteredsets/impl.setsWith"], fn := fun _ => fun
  | [d, g1] => { results := [.lit (.bool true)], args := [d], vars := [g1] }
  | _ => none }
def fnExactStarNumberRow : OpenClaim := { program := "ytlkodggaebnkfaadoor", sum := "864332cea61d188915e5559dcf410c3bfaec1be295dfa387244b9f4f19389e62", func := "loop.example/shatteredsets/laws.FnExactStarNumber", spec := "fnExactStarNumber", unfollowed := true, recurses := true, named := ["loop.example/shatteredsets/impl.setsWith"], apart := false, laid := [("loop.example/shatteredsets/impl.setsWith", laid_loop_example_shatteredsets_impl_setsWith)] }
def FnExactStarNumberSaid : Prop := fnExactStarNumberRow.holds Tryd.pinned (OpenSpec.ofChange fnExactStarNumberSpec)

/-- ITS FALSE NEIGHBOUR: 'it returns false'. Refute it at one input. -/
def fnExactStarNumberWrong : ChangeSpec := { name := "fnExactStarNumber", vars := ["loop.example/shatteredsets/impl.setsWith"], fn := fun _ => fun
  | [d, g1] => { results := [.lit (.bool false)], args := [d], vars := [g1] }
  | _ => none }
def FnExactStarNumberWrongFalsely : Prop := fnExactStarNumberRow.holds Tryd.pinned (OpenSpec.ofChange fnExactStarNumberWrong)

/- THE SECOND FORM. 'bulk': how many values and letters a reading holds, each counted each time it is reached (what is shared counts as often as it is met; a slice's spare places count too). A statement '..UptoSaid' is the law's where the arguments, and the package variables that the reading takes, are together of bulk at most 1048576: NARROWER than '..Said'. Prove '..Said' where nothing that the law and all that it calls make is longer than what came in: it says more and counts as full. Else prove '..UptoSaid'. A law counts once. -/
mutual
def uptoBulk {H : Type} : DataW H → Nat
  | .lit (.string bytes) => bytes.length + 1
  | .lit _ => 1
  | .nil => 1
  | .ptr d => uptoBulk d + 1
  | .slice elems spare => uptoBulkAll elems + uptoBulkAll spare + 1
  | .agg parts => uptoBulkAll parts + 1
  | .iface _ d => uptoBulk d + 1
  | .map entries => uptoBulkEntries entries + 1
  | .held _ => 1
def uptoBulkAll {H : Type} : List (DataW H) → Nat
  | [] => 0
  | d :: r => uptoBulk d + uptoBulkAll r
def uptoBulkEntries {H : Type} : List (Lit × DataW H) → Nat
  | [] => 0
  | x :: r => uptoBulkEntry x + uptoBulkEntries r
def uptoBulkEntry {H : Type} : Lit × DataW H → Nat
  | (.string bytes, d) => bytes.length + uptoBulk d + 1
  | (_, d) => uptoBulk d + 1
 end
def uptoSmall : (H : Type) → List (DataW H) → Bool := fun _ ds => decide (uptoBulkAll ds ≤ 1048576)
def OpenSpec.upto (s : _root_.Go.ChangeSpec) : _root_.Go.OpenSpec := { _root_.Go.OpenSpec.ofChange s with cond := some uptoSmall }

/-- 'laws.FnExactIsTeaching', WHERE WHAT IT READS IS OF BULK AT MOST 1048576: true; the input reads as it did. -/
def fnExactIsTeachingUptoRow : OpenClaim := { program := "ytlkodggaebnkfaadoor", sum := "864332cea61d188915e5559dcf410c3bfaec1be295dfa387244b9f4f19389e62", func := "loop.example/shatteredsets/laws.FnExactIsTeaching", spec := "fnExactIsTeaching", unfollowed := true, recurses := true, named := ["loop.example/shatteredsets/impl.setsWith"], apart := false, laid := [("loop.example/shatteredsets/impl.setsWith", laid_loop_example_shatteredsets_impl_setsWith)], narrowed := true }
def FnExactIsTeachingUptoSaid : Prop := fnExactIsTeachingUptoRow.holds Tryd.pinned (OpenSpec.upto fnExactIsTeachingSpec)

/-- 'laws.FnExactFirstTeaching', WHERE WHAT IT READS IS OF BULK AT MOST 1048576: true; the input reads as it did. -/
def fnExactFirstTeachingUptoRow : OpenClaim := { program := "ytlkodggaebnkfaadoor", sum := "864332cea61d188915e5559dcf410c3bfaec1be295dfa387244b9f4f19389e62", func := "loop.example/shatteredsets/laws.FnExactFirstTeaching", spec := "fnExactFirstTeaching", unfollowed := true, recurses := true, named := ["loop.example/shatteredsets/impl.setsWith"], apart := false, laid := [("loop.example/shatteredsets/impl.setsWith", laid_loop_example_shatteredsets_impl_setsWith)], narrowed := true }
def FnExactFirstTeachingUptoSaid : Prop := fnExactFirstTeachingUptoRow.holds Tryd.pinned (OpenSpec.upto fnExactFirstTeachingSpec)

/-- 'laws.FnExactTeachingNumber', WHERE WHAT IT READS IS OF BULK AT MOST 1048576: true; the input reads as it did. -/
def fnExactTeachingNumberUptoRow : OpenClaim := { program := "ytlkodggaebnkfaadoor", sum := "864332cea61d188915e5559dcf410c3bfaec1be295dfa387244b9f4f19389e62", func := "loop.example/shatteredsets/laws.FnExactTeachingNumber", spec := "fnExactTeachingNumber", unfollowed := true, recurses := true, named := ["loop.example/shatteredsets/impl.setsWith"], apart := false, laid := [("loop.example/shatteredsets/impl.setsWith", laid_loop_example_shatteredsets_impl_setsWith)], narrowed := true }
def FnExactTeachingNumberUptoSaid : Prop := fnExactTeachingNumberUptoRow.holds Tryd.pinned (OpenSpec.upto fnExactTeachingNumberSpec)

/-- 'laws.FnExactTeachingNumbers', WHERE WHAT IT READS IS OF BULK AT MOST 1048576: true; the input reads as it did. -/
def fnExactTeachingNumbersUptoRow : OpenClaim := { program := "ytlkodggaebnkfaadoor", sum := "864332cea61d188915e5559dcf410c3bfaec1be295dfa387244b9f4f19389e62", func := "loop.example/shatteredsets/laws.FnExactTeachingNumbers", spec := "fnExactTeachingNumbers", unfollowed := true, recurses := true, named := ["loop.example/shatteredsets/impl.setsWith"], apart := false, laid := [("loop.example/shatteredsets/impl.setsWith", laid_loop_example_shatteredsets_impl_setsWith)], narrowed := true }
def FnExactTeachingNumbersUptoSaid : Prop := fnExactTeachingNumbersUptoRow.holds Tryd.pinned (OpenSpec.upto fnExactTeachingNumbersSpec)

/-- 'laws.FnExactTeachingDimension', WHERE WHAT IT READS IS OF BULK AT MOST 1048576: true; the input reads as it did. -/
def fnExactTeachingDimensionUptoRow : OpenClaim := { program := "ytlkodggaebnkfaadoor", sum := "864332cea61d188915e5559dcf410c3bfaec1be295dfa387244b9f4f19389e62", func := "loop.example/shatteredsets/laws.FnExactTeachingDimension", spec := "fnExactTeachingDimension", unfollowed := true, recurses := true, named := ["loop.example/shatteredsets/impl.setsWith"], apart := false, laid := [("loop.example/shatteredsets/impl.setsWith", laid_loop_example_shatteredsets_impl_setsWith)], narrowed := true }
def FnExactTeachingDimensionUptoSaid : Prop := fnExactTeachingDimensionUptoRow.holds Tryd.pinned (OpenSpec.upto fnExactTeachingDimensionSpec)

/-- 'laws.FnExactEasiestTeaching', WHERE WHAT IT READS IS OF BULK AT MOST 1048576: true; the input reads as it did. -/
def fnExactEasiestTeachingUptoRow : OpenClaim := { program := "ytlkodggaebnkfaadoor", sum := "864332cea61d188915e5559dcf410c3bfaec1be295dfa387244b9f4f19389e62", func := "loop.example/shatteredsets/laws.FnExactEasiestTeaching", spec := "fnExactEasiestTeaching", unfollowed := true, recurses := true, named := ["loop.example/shatteredsets/impl.setsWith"], apart := false, laid := [("loop.example/shatteredsets/impl.setsWith", laid_loop_example_shatteredsets_impl_setsWith)], narrowed := true }
def FnExactEasiestTeachingUptoSaid : Prop := fnExactEasiestTeachingUptoRow.holds Tryd.pinned (OpenSpec.upto fnExactEasiestTeachingSpec)

/-- 'laws.FnExactTeachingsOf', WHERE WHAT IT READS IS OF BULK AT MOST 1048576: true; the input reads as it did. -/
def fnExactTeachingsOfUptoRow : OpenClaim := { program := "ytlkodggaebnkfaadoor", sum := "864332cea61d188915e5559dcf410c3bfaec1be295dfa387244b9f4f19389e62", func := "loop.example/shatteredsets/laws.FnExactTeachingsOf", spec := "fnExactTeachingsOf", unfollowed := true, recurses := true, named := ["loop.example/shatteredsets/impl.setsWith"], apart := false, laid := [("loop.example/shatteredsets/impl.setsWith", laid_loop_example_shatteredsets_impl_setsWith)], narrowed := true }
def FnExactTeachingsOfUptoSaid : Prop := fnExactTeachingsOfUptoRow.holds Tryd.pinned (OpenSpec.upto fnExactTeachingsOfSpec)

/-- 'laws.FnExactStarNumber', WHERE WHAT IT READS IS OF BULK AT MOST 1048576: true; the input reads as it did. -/
def fnExactStarNumberUptoRow : OpenClaim := { program := "ytlkodggaebnkfaadoor", sum := "864332cea61d188915e5559dcf410c3bfaec1be295dfa387244b9f4f19389e62", func := "loop.example/shatteredsets/laws.FnExactStarNumber", spec := "fnExactStarNumber", unfollowed := true, recurses := true, named := ["loop.example/shatteredsets/impl.setsWith"], apart := false, laid := [("loop.example/shatteredsets/impl.setsWith", laid_loop_example_shatteredsets_impl_setsWith)], narrowed := true }
def FnExactStarNumberUptoSaid : Prop := fnExactStarNumberUptoRow.holds Tryd.pinned (OpenSpec.upto fnExactStarNumberSpec)

end Rows
end Go.Proofs.YtlkodggaebnkfaaDoor
