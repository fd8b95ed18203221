/-
  NARROWER THAN 'FOR EVERY INPUT', by the rows' own cells (each row's printed sentence says how): FnExactStarNumber: laid · FnStarNumber: laid · FnTeachingsOf: laid · FnTeachingDimension: laid · FnExactLayersOf: laid · FnExactRecursiveDimension: laid · FnEasiestTeaching: laid · FnExactTeachingPlan: laid · FnExactLearnPlan: laid.
  DERIVED. THE GIVEN ROWS OF THIS SEAT. 9 by the template 'for every input the law returns true; each argument reads behind the call as it read before'; 0 by the template 'total and deterministic' (their statements: YtnoppclajhfnjaaDoorTotals.lean).
  GIVEN WITH THE SEED: the statements are not yours to turn. If you find one false, say at which input.
  Laid BY PROGRAM, IN A SANDBOX (cutbox-rows.mjs): the forced cells as the released guide's own fill.sh prints them over the translation f58ec04a0ffc2ffd… (all of the seat's roots in one cut). By AI agents, Wed Nov 11 2026. No macro, syntax, notation, axiom, sorry.
-/
import Derived.Test.YtnoppclajhfnjaaDoorChecked
import GoSem.Claim
import GoSem.ClaimJoined
import GoSem.ClaimMapViews
import Derived.JoinedTies
import Derived.KernelRfl
namespace Go.Proofs.YtnoppclajhfnjaaDoor
/- THE CELL 'sum', in the pinned program and in every row, IS THE sha256 OF THE DUMP (.gsa) THAT YtnoppclajhfnjaaDoorProg.lean LOADS. Nothing in Lean hashes anything: it is a label: what it is worth is what the hold of that sum in a sandbox is worth. -/
noncomputable def Tryd.pinned : Pinned := { name := "ytnoppclajhfnjaadoor", sum := "f58ec04a0ffc2ffde79afc64466e9ce2923d74778c691cf3af97c6f169d373e5", checked := Tryd.checked }
namespace Rows
def none {H : Type} : Left H := { results := [], args := [] }

/- WHAT THE LISTED PACKAGE-LEVEL VARIABLES READ AS WHEN THE CALL BEGINS. Each datum BY PROGRAM (the guide's laid-datum.mjs) off the statement by which the dump's own 'gosem.cut.vars' lays the variable. In a bare row this is a premise. The card (YtnoppclajhfnjaaDoorCards.lean) ties it to the program's text. -/
def laid_loop_example_shatteredsets_impl_setsWith {H : Type} : DataW H := .agg [.lit (.int .u32 2863311530), .lit (.int .u32 3435973836), .lit (.int .u32 4042322160), .lit (.int .u32 4278255360), .lit (.int .u32 4294901760)]

/-- 'laws.FnExactStarNumber': WHATEVER THE INPUT: true; the input reads as it did. -/
def fnExactStarNumberSpec : ChangeSpec := { name := "fnExactStarNumber", vars := ["loop.example/shatteredsets/impl.setsWith"], fn := fun _ => fun
  | [d, g1] => { results := [.lit (.bool true)], args := [d], vars := [g1] }
  | _ => none }
def fnExactStarNumberRow : OpenClaim := { program := "ytnoppclajhfnjaadoor", sum := "f58ec04a0ffc2ffde79afc64466e9ce2923d74778c691cf3af97c6f169d373e5", func := "loop.example/shatteredsets/laws.FnExactStarNumber", spec := "fnExactStarNumber", unfollowed := true, recurses := true, named := ["loop.example/shatteredsets/impl.setsWith"], apart := false, laid := [("loop.example/shatteredsets/impl.setsWith", laid_loop_example_shatteredsets_impl_setsWith)] }
def FnExactStarNumberSaid : Prop := fnExactStarNumberRow.holds Tryd.pinned (OpenSpec.ofChange fnExactStarNumberSpec)

/-- ITS FALSE NEIGHBOUR: 'it returns false'. Refute it at one input. -/
def fnExactStarNumberWrong : ChangeSpec := { name := "fnExactStarNumber", vars := ["loop.example/shatteredsets/impl.setsWith"], fn := fun _ => fun
  | [d, g1] => { results := [.lit (.bool false)], args := [d], vars := [g1] }
  | _ => none }
def FnExactStarNumberWrongFalsely : Prop := fnExactStarNumberRow.holds Tryd.pinned (OpenSpec.ofChange fnExactStarNumberWrong)

/-- 'laws.FnStarNumber': WHATEVER THE INPUT: true; the input reads as it did. -/
def fnStarNumberSpec : ChangeSpec := { name := "fnStarNumber", vars := ["loop.example/shatteredsets/impl.setsWith"], fn := fun _ => fun
  | [d, g1] => { results := [.lit (.bool true)], args := [d], vars := [g1] }
  | _ => none }
def fnStarNumberRow : OpenClaim := { program := "ytnoppclajhfnjaadoor", sum := "f58ec04a0ffc2ffde79afc64466e9ce2923d74778c691cf3af97c6f169d373e5", func := "loop.example/shatteredsets/laws.FnStarNumber", spec := "fnStarNumber", unfollowed := true, recurses := true, named := ["loop.example/shatteredsets/impl.setsWith"], apart := false, laid := [("loop.example/shatteredsets/impl.setsWith", laid_loop_example_shatteredsets_impl_setsWith)] }
def FnStarNumberSaid : Prop := fnStarNumberRow.holds Tryd.pinned (OpenSpec.ofChange fnStarNumberSpec)

/-- ITS FALSE NEIGHBOUR: 'it returns false'. Refute it at one input. -/
def fnStarNumberWrong : ChangeSpec := { name := "fnStarNumber", vars := ["loop.example/shatteredsets/impl.setsWith"], fn := fun _ => fun
  | [d, g1] => { results := [.lit (.bool false)], args := [d], vars := [g1] }
  | _ => none }
def FnStarNumberWrongFalsely : Prop := fnStarNumberRow.holds Tryd.pinned (OpenSpec.ofChange fnStarNumberWrong)

/-- 'laws.FnTeachingsOf': WHATEVER THE INPUT: true; the input reads as it did. -/
def fnTeachingsOfSpec : ChangeSpec := { name := "fnTeachingsOf", vars := ["loop.example/shatteredsets/impl.setsWith"], fn := fun _ => fun
  | [d, g1] => { results := [.lit (.bool true)], args := [d], vars := [g1] }
  | _ => none }
def fnTeachingsOfRow : OpenClaim := { program := "ytnoppclajhfnjaadoor", sum := "f58ec04a0ffc2ffde79afc64466e9ce2923d74778c691cf3af97c6f169d373e5", func := "loop.example/shatteredsets/laws.FnTeachingsOf", spec := "fnTeachingsOf", unfollowed := true, recurses := true, named := ["loop.example/shatteredsets/impl.setsWith"], apart := false, laid := [("loop.example/shatteredsets/impl.setsWith", laid_loop_example_shatteredsets_impl_setsWith)] }
def FnTeachingsOfSaid : Prop := fnTeachingsOfRow.holds Tryd.pinned (OpenSpec.ofChange fnTeachingsOfSpec)

/-- ITS FALSE NEIGHBOUR: 'it returns false'. Refute it at one input. -/
def fnTeachingsOfWrong : ChangeSpec := { name := "fnTeachingsOf", vars := ["loop.example/shatteredsets/impl.setsWith"], fn := fun _ => fun
  | [d, g1] => { results := [.lit (.bool false)], args := [d], vars := [g1] }
  | _ => none }
def FnTeachingsOfWrongFalsely : Prop := fnTeachingsOfRow.holds Tryd.pinned (OpenSpec.ofChange fnTeachingsOfWrong)

/-- 'laws.FnTeachingDimension': WHATEVER THE INPUT: true; the input reads as it did. -/
def fnTeachingDimensionSpec : ChangeSpec := { name := "fnTeachingDimension", vars := ["loop.example/shatteredsets/impl.setsWith"], fn := fun _ => fun
  | [d, g1] => { results := [.lit (.bool true)], args := [d], vars := [g1] }
  | _ => none }
def fnTeachingDimensionRow : OpenClaim := { program := "ytnoppclajhfnjaadoor", sum := "f58ec04a0ffc2ffde79afc64466e9ce2923d74778c691cf3af97c6f169d373e5", func := "loop.example/shatteredsets/laws.FnTeachingDimension", spec := "fnTeachingDimension", unfollowed := true, recurses := true, named := ["loop.example/shatteredsets/impl.setsWith"], apart := false, laid := [("loop.example/shatteredsets/impl.setsWith", laid_loop_example_shatteredsets_impl_setsWith)] }
def FnTeachingDimensionSaid : Prop := fnTeachingDimensionRow.holds Tryd.pinned (OpenSpec.ofChange fnTeachingDimensionSpec)

/-- ITS FALSE NEIGHBOUR: 'it returns false'. Refute it at one input. -/
def fnTeachingDimensionWrong : ChangeSpec := { name := "fnTeachingDimension", vars := ["loop.example/shatteredsets/impl.setsWith"], fn := fun _ => fun
  | [d, g1] => { results := [.lit (.bool false)], args := [d], vars := [g1] }
  | _ => none }
def FnTeachingDimensionWrongFalsely : Prop := fnTeachingDimensionRow.holds Tryd.pinned (OpenSpec.ofChange fnTeachingDimensionWrong)

/-- 'laws.FnExactLayersOf': WHATEVER THE INPUT: true; the input reads as it did. -/
def fnExactLayersOfSpec : ChangeSpec := { name := "fnExactLayersOf", vars := ["loop.example/shatteredsets/impl.setsWith"], fn := fun _ => fun
  | [d, g1] => { results := [.lit (.bool true)], args := [d], vars := [g1] }
  | _ => none }
def fnExactLayersOfRow : OpenClaim := { program := "ytnoppclajhfnjaadoor", sum := "f58ec04a0ffc2ffde79afc64466e9ce2923d74778c691cf3af97c6f169d373e5", func := "loop.example/shatteredsets/laws.FnExactLayersOf", spec := "fnExactLayersOf", unfollowed := true, recurses := true, named := ["loop.example/shatteredsets/impl.setsWith"], apart := false, laid := [("loop.example/shatteredsets/impl.setsWith", laid_loop_example_shatteredsets_impl_setsWith)] }
def FnExactLayersOfSaid : Prop := fnExactLayersOfRow.holds Tryd.pinned (OpenSpec.ofChange fnExactLayersOfSpec)

/-- ITS FALSE NEIGHBOUR: 'it returns false'. Refute it at one input. -/
def fnExactLayersOfWrong : ChangeSpec := { name := "fnExactLayersOf", vars := ["loop.example/shatteredsets/impl.setsWith"], fn := fun _ => fun
  | [d, g1] => { results := [.lit (.bool false)], args := [d], vars := [g1] }
  | _ => none }
def FnExactLayersOfWrongFalsely : Prop := fnExactLayersOfRow.holds Tryd.pinned (OpenSpec.ofChange fnExactLayersOfWrong)

/-- 'laws.FnExactRecursiveDimension': WHATEVER THE INPUT: true; the input reads as it did. -/
def fnExactRecursiveDimensionSpec : ChangeSpec := { name := "fnExactRecursiveDimension", vars := ["loop.example/shatteredsets/impl.setsWith"], fn := fun _ => fun
  | [d, g1] => { results := [.lit (.bool true)], args := [d], vars := [g1] }
  | _ => none }
def fnExactRecursiveDimensionRow : OpenClaim := { program := "ytnoppclajhfnjaadoor", sum := "f58ec04a0ffc2ffde79afc64466e9ce2923d74778c691cf3af97c6f169d373e5", func := "loop.example/shatteredsets/laws.FnExactRecursiveDimension", spec := "fnExactRecursiveDimension", unfollowed := true, recurses := true, named := ["loop.example/shatteredsets/impl.setsWith"], apart := false, laid := [("loop.example/shatteredsets/impl.setsWith", laid_loop_example_shatteredsets_impl_setsWith)] }
def FnExactRecursiveDimensionSaid : Prop := fnExactRecursiveDimensionRow.holds Tryd.pinned (OpenSpec.ofChange fnExactRecursiveDimensionSpec)

/-- ITS FALSE NEIGHBOUR: 'it returns false'. Refute it at one input. -/
def fnExactRecursiveDimensionWrong : ChangeSpec := { name := "fnExactRecursiveDimension", vars := ["loop.example/shatteredsets/impl.setsWith"], fn := fun _ => fun
  | [d, g1] => { results := [.lit (.bool false)], args := [d], vars := [g1] }
  | _ => none }
def FnExactRecursiveDimensionWrongFalsely : Prop := fnExactRecursiveDimensionRow.holds Tryd.pinned (OpenSpec.ofChange fnExactRecursiveDimensionWrong)

/-- 'laws.FnEasiestTeaching': WHATEVER THE INPUT: true; the input reads as it did. -/
def fnEasiestTeachingSpec : ChangeSpec := { name := "fnEasiestTeaching", vars := ["loop.example/shatteredsets/impl.setsWith"], fn := fun _ => fun
  | [d, g1] => { results := [.lit (.bool true)], args := [d], vars := [g1] }
  | _ => none }
def fnEasiestTeachingRow : OpenClaim := { program := "ytnoppclajhfnjaadoor", sum := "f58ec04a0ffc2ffde79afc64466e9ce2923d74778c691cf3af97c6f169d373e5", func := "loop.example/shatteredsets/laws.FnEasiestTeaching", spec := "fnEasiestTeaching", unfollowed := true, recurses := true, named := ["loop.example/shatteredsets/impl.setsWith"], apart := false, laid := [("loop.example/shatteredsets/impl.setsWith", laid_loop_example_shatteredsets_impl_setsWith)] }
def FnEasiestTeachingSaid : Prop := fnEasiestTeachingRow.holds Tryd.pinned (OpenSpec.ofChange fnEasiestTeachingSpec)

/-- ITS FALSE NEIGHBOUR: 'it returns false'. Refute it at one input. -/
def fnEasiestTeachingWrong : ChangeSpec := { name := "fnEasiestTeaching", vars := ["loop.example/shatteredsets/impl.setsWith"], fn := fun _ => fun
  | [d, g1] => { results := [.lit (.bool false)], args := [d], vars := [g1] }
  | _ => none }
def FnEasiestTeachingWrongFalsely : Prop := fnEasiestTeachingRow.holds Tryd.pinned (OpenSpec.ofChange fnEasiestTeachingWrong)

/-- 'laws.FnExactTeachingPlan': WHATEVER THE INPUT: true; the input reads as it did. -/
def fnExactTeachingPlanSpec : ChangeSpec := { name := "fnExactTeachingPlan", vars := ["loop.example/shatteredsets/impl.setsWith"], fn := fun _ => fun
  | [d, g1] => { results := [.lit (.bool true)], args := [d], vars := [g1] }
  | _ => none }
def fnExactTeachingPlanRow : OpenClaim := { program := "ytnoppclajhfnjaadoor", sum := "f58ec04a0ffc2ffde79afc64466e9ce2923d74778c691cf3af97c6f169d373e5", func := "loop.example/shatteredsets/laws.FnExactTeachingPlan", spec := "fnExactTeachingPlan", unfollowed := true, recurses := true, named := ["loop.example/shatteredsets/impl.setsWith"], apart := false, laid := [("loop.example/shatteredsets/impl.setsWith", laid_loop_example_shatteredsets_impl_setsWith)] }
def FnExactTeachingPlanSaid : Prop := fnExactTeachingPlanRow.holds Tryd.pinned (OpenSpec.ofChange fnExactTeachingPlanSpec)

/-- ITS FALSE NEIGHBOUR: 'it returns false'. Refute it at one input. -/
def fnExactTeachingPlanWrong : ChangeSpec := { name := "fnExactTeachingPlan", vars := ["loop.example/shatteredsets/impl.setsWith"], fn := fun _ => fun
  | [d, g1] => { results := [.lit (.bool false)], args := [d], vars := [g1] }
  | _ => none }
def FnExactTeachingPlanWrongFalsely : Prop := fnExactTeachingPlanRow.holds Tryd.pinned (OpenSpec.ofChange fnExactTeachingPlanWrong)

/-- 'laws.FnExactLearnPlan': WHATEVER THE INPUT: true; the input reads as it did. -/
def fnExactLearnPlanSpec : ChangeSpec := { name := "fnExactLearnPlan", vars := ["loop.example/shatteredsets/impl.setsWith"], fn := fun _ => fun
  | [d1, d2, g1] => { results := [.lit (.bool true)], args := [d1, d2], vars := [g1] }
  | _ => none }
def fnExactLearnPlanRow : OpenClaim := { program := "ytnoppclajhfnjaadoor", sum := "f58ec04a0ffc2ffde79afc64466e9ce2923d74778c691cf3af97c6f169d373e5", func := "loop.example/shatteredsets/laws.FnExactLearnPlan", spec := "fnExactLearnPlan", unfollowed := true, recurses := true, named := ["loop.example/shatteredsets/impl.setsWith"], apart := false, laid := [("loop.example/shatteredsets/impl.setsWith", laid_loop_example_shatteredsets_impl_setsWith)] }
def FnExactLearnPlanSaid : Prop := fnExactLearnPlanRow.holds Tryd.pinned (OpenSpec.ofChange fnExactLearnPlanSpec)

/-- ITS FALSE NEIGHBOUR: 'it returns false'. Refute it at one input. -/
def fnExactLearnPlanWrong : ChangeSpec := { name := "fnExactLearnPlan", vars := ["loop.example/shatteredsets/impl.setsWith"], fn := fun _ => fun
  | [d1, d2, g1] => { results := [.lit (.bool false)], args := [d1, d2], vars := [g1] }
  | _ => none }
def FnExactLearnPlanWrongFalsely : Prop := fnExactLearnPlanRow.holds Tryd.pinned (OpenSpec.ofChange fnExactLearnPlanWrong)

/- THE SECOND FORM. 'bulk': how many values and letters a reading holds, each counted each time it is reached (what is shared counts as often as it is met; a slice's spare places count too). A statement '..UptoSaid' is the law's where the arguments, and the package variables that the reading takes, are together of bulk at most 1048576: NARROWER than '..Said'. Prove '..Said' where nothing that the law and all that it calls make is longer than what came in: it says more and counts as full. Else prove '..UptoSaid'. A law counts once. -/
mutual
def uptoBulk {H : Type} : DataW H → Nat
  | .lit (.string bytes) => bytes.length + 1
  | .lit _ => 1
  | .nil => 1
  | .ptr d => uptoBulk d + 1
  | .slice elems spare => uptoBulkAll elems + uptoBulkAll spare + 1
  | .agg parts => uptoBulkAll parts + 1
  | .iface _ d => uptoBulk d + 1
  | .map entries => uptoBulkEntries entries + 1
  | .held _ => 1
def uptoBulkAll {H : Type} : List (DataW H) → Nat
  | [] => 0
  | d :: r => uptoBulk d + uptoBulkAll r
def uptoBulkEntries {H : Type} : List (Lit × DataW H) → Nat
  | [] => 0
  | x :: r => uptoBulkEntry x + uptoBulkEntries r
def uptoBulkEntry {H : Type} : Lit × DataW H → Nat
  | (.string bytes, d) => bytes.length + uptoBulk d + 1
  | (_, d) => uptoBulk d + 1
 end
def uptoSmall : (H : Type) → List (DataW H) → Bool := fun _ ds => decide (uptoBulkAll ds ≤ 1048576)
def OpenSpec.upto (s : _root_.Go.ChangeSpec) : _root_.Go.OpenSpec := { _root_.Go.OpenSpec.ofChange s with cond := some uptoSmall }

/-- 'laws.FnExactStarNumber', WHERE WHAT IT READS IS OF BULK AT MOST 1048576: true; the input reads as it did. -/
def fnExactStarNumberUptoRow : OpenClaim := { program := "ytnoppclajhfnjaadoor", sum := "f58ec04a0ffc2ffde79afc64466e9ce2923d74778c691cf3af97c6f169d373e5", func := "loop.example/shatteredsets/laws.FnExactStarNumber", spec := "fnExactStarNumber", unfollowed := true, recurses := true, named := ["loop.example/shatteredsets/impl.setsWith"], apart := false, laid := [("loop.example/shatteredsets/impl.setsWith", laid_loop_example_shatteredsets_impl_setsWith)], narrowed := true }
def FnExactStarNumberUptoSaid : Prop := fnExactStarNumberUptoRow.holds Tryd.pinned (OpenSpec.upto fnExactStarNumberSpec)

/-- 'laws.FnStarNumber', WHERE WHAT IT READS IS OF BULK AT MOST 1048576: true; the input reads as it did. -/
def fnStarNumberUptoRow : OpenClaim := { program := "ytnoppclajhfnjaadoor", sum := "f58ec04a0ffc2ffde79afc64466e9ce2923d74778c691cf3af97c6f169d373e5", func := "loop.example/shatteredsets/laws.FnStarNumber", spec := "fnStarNumber", unfollowed := true, recurses := true, named := ["loop.example/shatteredsets/impl.setsWith"], apart := false, laid := [("loop.example/shatteredsets/impl.setsWith", laid_loop_example_shatteredsets_impl_setsWith)], narrowed := true }
def FnStarNumberUptoSaid : Prop := fnStarNumberUptoRow.holds Tryd.pinned (OpenSpec.upto fnStarNumberSpec)

/-- 'laws.FnTeachingsOf', WHERE WHAT IT READS IS OF BULK AT MOST 1048576: true; the input reads as it did. -/
def fnTeachingsOfUptoRow : OpenClaim := { program := "ytnoppclajhfnjaadoor", sum := "f58ec04a0ffc2ffde79afc64466e9ce2923d74778c691cf3af97c6f169d373e5", func := "loop.example/shatteredsets/laws.FnTeachingsOf", spec := "fnTeachingsOf", unfollowed := true, recurses := true, named := ["loop.example/shatteredsets/impl.setsWith"], apart := false, laid := [("loop.example/shatteredsets/impl.setsWith", laid_loop_example_shatteredsets_impl_setsWith)], narrowed := true }
def FnTeachingsOfUptoSaid : Prop := fnTeachingsOfUptoRow.holds Tryd.pinned (OpenSpec.upto fnTeachingsOfSpec)

/-- 'laws.FnTeachingDimension', WHERE WHAT IT READS IS OF BULK AT MOST 1048576: true; the input reads as it did. -/
def fnTeachingDimensionUptoRow : OpenClaim := { program := "ytnoppclajhfnjaadoor", sum := "f58ec04a0ffc2ffde79afc64466e9ce2923d74778c691cf3af97c6f169d373e5", func := "loop.example/shatteredsets/laws.FnTeachingDimension", spec := "fnTeachingDimension", unfollowed := true, recurses := true, named := ["loop.example/shatteredsets/impl.setsWith"], apart := false, laid := [("loop.example/shatteredsets/impl.setsWith", laid_loop_example_shatteredsets_impl_setsWith)], narrowed := true }
def FnTeachingDimensionUptoSaid : Prop := fnTeachingDimensionUptoRow.holds Tryd.pinned (OpenSpec.upto fnTeachingDimensionSpec)

/-- 'laws.FnExactLayersOf', WHERE WHAT IT READS IS OF BULK AT MOST 1048576: true; the input reads as it did. -/
def fnExactLayersOfUptoRow : OpenClaim := { program := "ytnoppclajhfnjaadoor", sum := "f58ec04a0ffc2ffde79afc64466e9ce2923d74778c691cf3af97c6f169d373e5", func := "loop.example/shatteredsets/laws.FnExactLayersOf", spec := "fnExactLayersOf", unfollowed := true, recurses := true, named := ["loop.example/shatteredsets/impl.setsWith"], apart := false, laid := [("loop.example/shatteredsets/impl.setsWith", laid_loop_example_shatteredsets_impl_setsWith)], narrowed := true }
def FnExactLayersOfUptoSaid : Prop := fnExactLayersOfUptoRow.holds Tryd.pinned (OpenSpec.upto fnExactLayersOfSpec)

/-- 'laws.FnExactRecursiveDimension', WHERE WHAT IT READS IS OF BULK AT MOST 1048576: true; the input reads as it did. -/
def fnExactRecursiveDimensionUptoRow : OpenClaim := { program := "ytnoppclajhfnjaadoor", sum := "f58ec04a0ffc2ffde79afc64466e9ce2923d74778c691cf3af97c6f169d373e5", func := "loop.example/shatteredsets/laws.FnExactRecursiveDimension", spec := "fnExactRecursiveDimension", unfollowed := true, recurses := true, named := ["loop.example/shatteredsets/impl.setsWith"], apart := false, laid := [("loop.example/shatteredsets/impl.setsWith", laid_loop_example_shatteredsets_impl_setsWith)], narrowed := true }
def FnExactRecursiveDimensionUptoSaid : Prop := fnExactRecursiveDimensionUptoRow.holds Tryd.pinned (OpenSpec.upto fnExactRecursiveDimensionSpec)

/-- 'laws.FnEasiestTeaching', WHERE WHAT IT READS IS OF BULK AT MOST 1048576: true; the input reads as it did. -/
def fnEasiestTeachingUptoRow : OpenClaim := { program := "ytnoppclajhfnjaadoor", sum := "f58ec04a0ffc2ffde79afc64466e9ce2923d74778c691cf3af97c6f169d373e5", func := "loop.example/shatteredsets/laws.FnEasiestTeaching", spec := "fnEasiestTeaching", unfollowed := true, recurses := true, named := ["loop.example/shatteredsets/impl.setsWith"], apart := false, laid := [("loop.example/shatteredsets/impl.setsWith", laid_loop_example_shatteredsets_impl_setsWith)], narrowed := true }
def FnEasiestTeachingUptoSaid : Prop := fnEasiestTeachingUptoRow.holds Tryd.pinned (OpenSpec.upto fnEasiestTeachingSpec)

/-- 'laws.FnExactTeachingPlan', WHERE WHAT IT READS IS OF BULK AT MOST 1048576: true; the input reads as it did. -/
def fnExactTeachingPlanUptoRow : OpenClaim := { program := "ytnoppclajhfnjaadoor", sum := "f58ec04a0ffc2ffde79afc64466e9ce2923d74778c691cf3af97c6f169d373e5", func := "loop.example/shatteredsets/laws.FnExactTeachingPlan", spec := "fnExactTeachingPlan", unfollowed := true, recurses := true, named := ["loop.example/shatteredsets/impl.setsWith"], apart := false, laid := [("loop.example/shatteredsets/impl.setsWith", laid_loop_example_shatteredsets_impl_setsWith)], narrowed := true }
def FnExactTeachingPlanUptoSaid : Prop := fnExactTeachingPlanUptoRow.holds Tryd.pinned (OpenSpec.upto fnExactTeachingPlanSpec)

/-- 'laws.FnExactLearnPlan', WHERE WHAT IT READS IS OF BULK AT MOST 1048576: true; the input reads as it did. -/
def fnExactLearnPlanUptoRow : OpenClaim := { program := "ytnoppclajhfnjaadoor", sum := "f58ec04a0ffc2ffde79afc64466e9ce2923d74778c691cf3af97c6f169d373e5", func := "loop.example/shatteredsets/laws.FnExactLearnPlan", spec := "fnExactLearnPlan", unfollowed := true, recurses := true, named := ["loop.example/shatteredsets/impl.setsWith"], apart := false, laid := [("loop.example/shatteredsets/impl.setsWith", laid_loop_example_shatteredsets_impl_setsWith)], narrowed := true }
def FnExactLearnPlanUptoSaid : Prop := fnExactLearnPlanUptoRow.holds Tryd.pinned (OpenSpec.upto fnExactLearnPlanSpec)

end Rows
end Go.Proofs.YtnoppclajhfnjaaDoor
