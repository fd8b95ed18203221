/-
  NARROWER THAN 'FOR EVERY INPUT', by the rows' own cells (each row's printed sentence says how): FnEquivalenceDepth: laid · FnLayersOf: laid · FnTeachingPlan: laid · FnLearnPlan: laid · FnTeachingsOf: laid · FnExactEquivalenceDepth: laid · FnExactLayersOf: laid · FnExactLearnPlan: laid.
  DERIVED. THE GIVEN ROWS OF THIS SEAT. 8 by the template 'for every input the law returns true; each argument reads behind the call as it read before'; 0 by the template 'total and deterministic' (their statements: YthmipnflbiclbaaDoorTotals.lean).
  GIVEN WITH THE SEED: the statements are not yours to turn. If you find one false, say at which input.
  Laid BY PROGRAM, IN A SANDBOX (cutbox-rows.mjs): the forced cells as the released guide's own fill.sh prints them over the translation e019e884fc4bea00… (all of the seat's roots in one cut). By AI agents, Wed Nov 11 2026. No macro, syntax, notation, axiom, sorry.
-/
import Derived.Test.YthmipnflbiclbaaDoorChecked
import GoSem.Claim
import GoSem.ClaimJoined
import GoSem.ClaimMapViews
import Derived.JoinedTies
import Derived.KernelRfl
namespace Go.Proofs.YthmipnflbiclbaaDoor
/- THE CELL 'sum', in the pinned program and in every row, IS THE sha256 OF THE DUMP (.gsa) THAT YthmipnflbiclbaaDoorProg.lean LOADS. Nothing in Lean hashes anything: it is a label: what it is worth is what the hold of that sum in a sandbox is worth. -/
noncomputable def Tryd.pinned : Pinned := { name := "ythmipnflbiclbaadoor", sum := "e019e884fc4bea0068ab1238479973fef3803a98470d3f803d0da6bf36625323", checked := Tryd.checked }
namespace Rows
def none {H : Type} : Left H := { results := [], args := [] }

/- WHAT THE LISTED PACKAGE-LEVEL VARIABLES READ AS WHEN THE CALL BEGINS. Each datum BY PROGRAM (the guide's laid-datum.mjs) off the statement by which the dump's own 'gosem.cut.vars' lays the variable. In a bare row this is a premise. The card (YthmipnflbiclbaaDoorCards.lean) ties it to the program's text. -/
def laid_loop_example_shatteredsets_impl_setsWith {H : Type} : DataW H := .agg [.lit (.int .u32 2863311530), .lit (.int .u32 3435973836), .lit (.int .u32 4042322160), .lit (.int .u32 4278255360), .lit (.int .u32 4294901760)]

/-- 'laws.FnEquivalenceDepth': WHATEVER THE INPUT: true; the input reads as it did. -/
def fnEquivalenceDepthSpec : ChangeSpec := { name := "fnEquivalenceDepth", vars := ["loop.example/shatteredsets/impl.setsWith"], fn := fun _ => fun
  | [d, g1] => { results := [.lit (.bool true)], args := [d], vars := [g1] }
  | _ => none }
def fnEquivalenceDepthRow : OpenClaim := { program := "ythmipnflbiclbaadoor", sum := "e019e884fc4bea0068ab1238479973fef3803a98470d3f803d0da6bf36625323", func := "loop.example/shatteredsets/laws.FnEquivalenceDepth", spec := "fnEquivalenceDepth", unfollowed := true, recurses := true, named := ["loop.example/shatteredsets/impl.setsWith"], apart := false, laid := [("loop.example/shatteredsets/impl.setsWith", laid_loop_example_shatteredsets_impl_setsWith)] }
def FnEquivalenceDepthSaid : Prop := fnEquivalenceDepthRow.holds Tryd.pinned (OpenSpec.ofChange fnEquivalenceDepthSpec)

/-- ITS FALSE NEIGHBOUR: 'it returns false'. Refute it at one input. -/
def fnEquivalenceDepthWrong : ChangeSpec := { name := "fnEquivalenceDepth", vars := ["loop.example/shatteredsets/impl.setsWith"], fn := fun _ => fun
  | [d, g1] => { results := [.lit (.bool false)], args := [d], vars := [g1] }
  | _ => none }
def FnEquivalenceDepthWrongFalsely : Prop := fnEquivalenceDepthRow.holds Tryd.pinned (OpenSpec.ofChange fnEquivalenceDepthWrong)

/-- 'laws.FnLayersOf': WHATEVER THE INPUT: true; the input reads as it did. -/
def fnLayersOfSpec : ChangeSpec := { name := "fnLayersOf", vars := ["loop.example/shatteredsets/impl.setsWith"], fn := fun _ => fun
  | [d, g1] => { results := [.lit (.bool true)], args := [d], vars := [g1] }
  | _ => none }
def fnLayersOfRow : OpenClaim := { program := "ythmipnflbiclbaadoor", sum := "e019e884fc4bea0068ab1238479973fef3803a98470d3f803d0da6bf36625323", func := "loop.example/shatteredsets/laws.FnLayersOf", spec := "fnLayersOf", unfollowed := true, recurses := true, named := ["loop.example/shatteredsets/impl.setsWith"], apart := false, laid := [("loop.example/shatteredsets/impl.setsWith", laid_loop_example_shatteredsets_impl_setsWith)] }
def FnLayersOfSaid : Prop := fnLayersOfRow.holds Tryd.pinned (OpenSpec.ofChange fnLayersOfSpec)

/-- ITS FALSE NEIGHBOUR: 'it returns false'. Refute it at one input. -/
def fnLayersOfWrong : ChangeSpec := { name := "fnLayersOf", vars := ["loop.example/shatteredsets/impl.setsWith"], fn := fun _ => fun
  | [d, g1] => { results := [.lit (.bool false)], args := [d], vars := [g1] }
  | _ => none }
def FnLayersOfWrongFalsely : Prop := fnLayersOfRow.holds Tryd.pinned (OpenSpec.ofChange fnLayersOfWrong)

/-- 'laws.FnTeachingPlan': WHATEVER THE INPUT: true; the input reads as it did. -/
def fnTeachingPlanSpec : ChangeSpec := { name := "fnTeachingPlan", vars := ["loop.example/shatteredsets/impl.setsWith"], fn := fun _ => fun
  | [d, g1] => { results := [.lit (.bool true)], args := [d], vars := [g1] }
  | _ => none }
def fnTeachingPlanRow : OpenClaim := { program := "ythmipnflbiclbaadoor", sum := "e019e884fc4bea0068ab1238479973fef3803a98470d3f803d0da6bf36625323", func := "loop.example/shatteredsets/laws.FnTeachingPlan", spec := "fnTeachingPlan", unfollowed := true, recurses := true, named := ["loop.example/shatteredsets/impl.setsWith"], apart := false, laid := [("loop.example/shatteredsets/impl.setsWith", laid_loop_example_shatteredsets_impl_setsWith)] }
def FnTeachingPlanSaid : Prop := fnTeachingPlanRow.holds Tryd.pinned (OpenSpec.ofChange fnTeachingPlanSpec)

/-- ITS FALSE NEIGHBOUR: 'it returns false'. Refute it at one input. -/
def fnTeachingPlanWrong : ChangeSpec := { name := "fnTeachingPlan", vars := ["loop.example/shatteredsets/impl.setsWith"], fn := fun _ => fun
  | [d, g1] => { results := [.lit (.bool false)], args := [d], vars := [g1] }
  | _ => none }
def FnTeachingPlanWrongFalsely : Prop := fnTeachingPlanRow.holds Tryd.pinned (OpenSpec.ofChange fnTeachingPlanWrong)

/-- 'laws.FnLearnPlan': WHATEVER THE INPUT: true; the input reads as it did. -/
def fnLearnPlanSpec : ChangeSpec := { name := "fnLearnPlan", vars := ["loop.example/shatteredsets/impl.setsWith"], fn := fun _ => fun
  | [d, g1] => { results := [.lit (.bool true)], args := [d], vars := [g1] }
  | _ => none }
def fnLearnPlanRow : OpenClaim := { program := "ythmipnflbiclbaadoor", sum := "e019e884fc4bea0068ab1238479973fef3803a98470d3f803d0da6bf36625323", func := "loop.example/shatteredsets/laws.FnLearnPlan", spec := "fnLearnPlan", unfollowed := true, recurses := true, named := ["loop.example/shatteredsets/impl.setsWith"], apart := false, laid := [("loop.example/shatteredsets/impl.setsWith", laid_loop_example_shatteredsets_impl_setsWith)] }
def FnLearnPlanSaid : Prop := fnLearnPlanRow.holds Tryd.pinned (OpenSpec.ofChange fnLearnPlanSpec)

/-- ITS FALSE NEIGHBOUR: 'it returns false'. Refute it at one input. -/
def fnLearnPlanWrong : ChangeSpec := { name := "fnLearnPlan", vars := ["loop.example/shatteredsets/impl.setsWith"], fn := fun _ => fun
  | [d, g1] => { results := [.lit (.bool false)], args := [d], vars := [g1] }
  | _ => none }
def FnLearnPlanWrongFalsely : Prop := fnLearnPlanRow.holds Tryd.pinned (OpenSpec.ofChange fnLearnPlanWrong)

/-- 'laws.FnTeachingsOf': WHATEVER THE INPUT: true; the input reads as it did. -/
def fnTeachingsOfSpec : ChangeSpec := { name := "fnTeachingsOf", vars := ["loop.example/shatteredsets/impl.setsWith"], fn := fun _ => fun
  | [d, g1] => { results := [.lit (.bool true)], args := [d], vars := [g1] }
  | _ => none }
def fnTeachingsOfRow : OpenClaim := { program := "ythmipnflbiclbaadoor", sum := "e019e884fc4bea0068ab1238479973fef3803a98470d3f803d0da6bf36625323", func := "loop.example/shatteredsets/laws.FnTeachingsOf", spec := "fnTeachingsOf", unfollowed := true, recurses := true, named := ["loop.example/shatteredsets/impl.setsWith"], apart := false, laid := [("loop.example/shatteredsets/impl.setsWith", laid_loop_example_shatteredsets_impl_setsWith)] }
def FnTeachingsOfSaid : Prop := fnTeachingsOfRow.holds Tryd.pinned (OpenSpec.ofChange fnTeachingsOfSpec)

/-- ITS FALSE NEIGHBOUR: 'it returns false'. Refute it at one input. -/
def fnTeachingsOfWrong : ChangeSpec := { name := "fnTeachingsOf", vars := ["loop.example/shatteredsets/impl.setsWith"], fn := fun _ => fun
  | [d, g1] => { results := [.lit (.bool false)], args := [d], vars := [g1] }
  | _ => none }
def FnTeachingsOfWrongFalsely : Prop := fnTeachingsOfRow.holds Tryd.pinned (OpenSpec.ofChange fnTeachingsOfWrong)

/-- 'laws.FnExactEquivalenceDepth': WHATEVER THE INPUT: true; the input reads as it did. -/
def fnExactEquivalenceDepthSpec : ChangeSpec := { name := "fnExactEquivalenceDepth", vars := ["loop.example/shatteredsets/impl.setsWith"], fn := fun _ => fun
  | [d1, d2, g1] => { results := [.lit (.bool true)], args := [d1, d2], vars := [g1] }
  | _ => none }
def fnExactEquivalenceDepthRow : OpenClaim := { program := "ythmipnflbiclbaadoor", sum := "e019e884fc4bea0068ab1238479973fef3803a98470d3f803d0da6bf36625323", func := "loop.example/shatteredsets/laws.FnExactEquivalenceDepth", spec := "fnExactEquivalenceDepth", unfollowed := true, recurses := true, named := ["loop.example/shatteredsets/impl.setsWith"], apart := false, laid := [("loop.example/shatteredsets/impl.setsWith", laid_loop_example_shatteredsets_impl_setsWith)] }
def FnExactEquivalenceDepthSaid : Prop := fnExactEquivalenceDepthRow.holds Tryd.pinned (OpenSpec.ofChange fnExactEquivalenceDepthSpec)

/-- ITS FALSE NEIGHBOUR: 'it returns false'. Refute it at one input. -/
def fnExactEquivalenceDepthWrong : ChangeSpec := { name := "fnExactEquivalenceDepth", vars := ["loop.example/shatteredsets/impl.setsWith"], fn := fun _ => fun
  | [d1, d2, g1] => { results := [.lit (.bool false)], args := [d1, d2], vars := [g1] }
  | _ => none }
def FnExactEquivalenceDepthWrongFalsely : Prop := fnExactEquivalenceDepthRow.holds Tryd.pinned (OpenSpec.ofChange fnExactEquivalenceDepthWrong)

/-- 'laws.FnExactLayersOf': WHATEVER THE INPUT: true; the input reads as it did. -/
def fnExactLayersOfSpec : ChangeSpec := { name := "fnExactLayersOf", vars := ["loop.example/shatteredsets/impl.setsWith"], fn := fun _ => fun
  | [d, g1] => { results := [.lit (.bool true)], args := [d], vars := [g1] }
  | _ => none }
def fnExactLayersOfRow : OpenClaim := { program := "ythmipnflbiclbaadoor", sum := "e019e884fc4bea0068ab1238479973fef3803a98470d3f803d0da6bf36625323", func := "loop.example/shatteredsets/laws.FnExactLayersOf", spec := "fnExactLayersOf", unfollowed := true, recurses := true, named := ["loop.example/shatteredsets/impl.setsWith"], apart := false, laid := [("loop.example/shatteredsets/impl.setsWith", laid_loop_example_shatteredsets_impl_setsWith)] }
def FnExactLayersOfSaid : Prop := fnExactLayersOfRow.holds Tryd.pinned (OpenSpec.ofChange fnExactLayersOfSpec)

/-- ITS FALSE NEIGHBOUR: 'it returns false'. Refute it at one input. -/
def fnExactLayersOfWrong : ChangeSpec := { name := "fnExactLayersOf", vars := ["loop.example/shatteredsets/impl.setsWith"], fn := fun _ => fun
  | [d, g1] => { results := [.lit (.bool false)], args := [d], vars := [g1] }
  | _ => none }
def FnExactLayersOfWrongFalsely : Prop := fnExactLayersOfRow.holds Tryd.pinned (OpenSpec.ofChange fnExactLayersOfWrong)

/-- 'laws.FnExactLearnPlan': WHATEVER THE INPUT: true; the input reads as it did. -/
def fnExactLearnPlanSpec : ChangeSpec := { name := "fnExactLearnPlan", vars := ["loop.example/shatteredsets/impl.setsWith"], fn := fun _ => fun
  | [d1, d2, g1] => { results := [.lit (.bool true)], args := [d1, d2], vars := [g1] }
  | _ => none }
def fnExactLearnPlanRow : OpenClaim := { program := "ythmipnflbiclbaadoor", sum := "e019e884fc4bea0068ab1238479973fef3803a98470d3f803d0da6bf36625323", func := "loop.example/shatteredsets/laws.FnExactLearnPlan", spec := "fnExactLearnPlan", unfollowed := true, recurses := true, named := ["loop.example/shatteredsets/impl.setsWith"], apart := false, laid := [("loop.example/shatteredsets/impl.setsWith", laid_loop_example_shatteredsets_impl_setsWith)] }
def FnExactLearnPlanSaid : Prop := fnExactLearnPlanRow.holds Tryd.pinned (OpenSpec.ofChange fnExactLearnPlanSpec)

/-- ITS FALSE NEIGHBOUR: 'it returns false'. Refute it at one input. -/
def fnExactLearnPlanWrong : ChangeSpec := { name := "fnExactLearnPlan", vars := ["loop.example/shatteredsets/impl.setsWith"], fn := fun _ => fun
  | [d1, d2, g1] => { results := [.lit (.bool false)], args := [d1, d2], vars := [g1] }
  | _ => none }
def FnExactLearnPlanWrongFalsely : Prop := fnExactLearnPlanRow.holds Tryd.pinned (OpenSpec.ofChange fnExactLearnPlanWrong)

/- THE SECOND FORM. 'bulk': how many values and letters a reading holds, each counted each time it is reached (what is shared counts as often as it is met; a slice's spare places count too). A statement '..UptoSaid' is the law's where the arguments, and the package variables that the reading takes, are together of bulk at most 1048576: NARROWER than '..Said'. Prove '..Said' where nothing that the law and all that it calls make is longer than what came in: it says more and counts as full. Else prove '..UptoSaid'. A law counts once. -/
mutual
def uptoBulk {H : Type} : DataW H → Nat
  | .lit (.string bytes) => bytes.length + 1
  | .lit _ => 1
  | .nil => 1
  | .ptr d => uptoBulk d + 1
  | .slice elems spare => uptoBulkAll elems + uptoBulkAll spare + 1
  | .agg parts => uptoBulkAll parts + 1
  | .iface _ d => uptoBulk d + 1
  | .map entries => uptoBulkEntries entries + 1
  | .held _ => 1
def uptoBulkAll {H : Type} : List (DataW H) → Nat
  | [] => 0
  | d :: r => uptoBulk d + uptoBulkAll r
def uptoBulkEntries {H : Type} : List (Lit × DataW H) → Nat
  | [] => 0
  | x :: r => uptoBulkEntry x + uptoBulkEntries r
def uptoBulkEntry {H : Type} : Lit × DataW H → Nat
  | (.string bytes, d) => bytes.length + uptoBulk d + 1
  | (_, d) => uptoBulk d + 1
 end
def uptoSmall : (H : Type) → List (DataW H) → Bool := fun _ ds => decide (uptoBulkAll ds ≤ 1048576)
def OpenSpec.upto (s : _root_.Go.ChangeSpec) : _root_.Go.OpenSpec := { _root_.Go.OpenSpec.ofChange s with cond := some uptoSmall }

/-- 'laws.FnEquivalenceDepth', WHERE WHAT IT READS IS OF BULK AT MOST 1048576: true; the input reads as it did. -/
def fnEquivalenceDepthUptoRow : OpenClaim := { program := "ythmipnflbiclbaadoor", sum := "e019e884fc4bea0068ab1238479973fef3803a98470d3f803d0da6bf36625323", func := "loop.example/shatteredsets/laws.FnEquivalenceDepth", spec := "fnEquivalenceDepth", unfollowed := true, recurses := true, named := ["loop.example/shatteredsets/impl.setsWith"], apart := false, laid := [("loop.example/shatteredsets/impl.setsWith", laid_loop_example_shatteredsets_impl_setsWith)], narrowed := true }
def FnEquivalenceDepthUptoSaid : Prop := fnEquivalenceDepthUptoRow.holds Tryd.pinned (OpenSpec.upto fnEquivalenceDepthSpec)

/-- 'laws.FnLayersOf', WHERE WHAT IT READS IS OF BULK AT MOST 1048576: true; the input reads as it did. -/
def fnLayersOfUptoRow : OpenClaim := { program := "ythmipnflbiclbaadoor", sum := "e019e884fc4bea0068ab1238479973fef3803a98470d3f803d0da6bf36625323", func := "loop.example/shatteredsets/laws.FnLayersOf", spec := "fnLayersOf", unfollowed := true, recurses := true, named := ["loop.example/shatteredsets/impl.setsWith"], apart := false, laid := [("loop.example/shatteredsets/impl.setsWith", laid_loop_example_shatteredsets_impl_setsWith)], narrowed := true }
def FnLayersOfUptoSaid : Prop := fnLayersOfUptoRow.holds Tryd.pinned (OpenSpec.upto fnLayersOfSpec)

/-- 'laws.FnTeachingPlan', WHERE WHAT IT READS IS OF BULK AT MOST 1048576: true; the input reads as it did. -/
def fnTeachingPlanUptoRow : OpenClaim := { program := "ythmipnflbiclbaadoor", sum := "e019e884fc4bea0068ab1238479973fef3803a98470d3f803d0da6bf36625323", func := "loop.example/shatteredsets/laws.FnTeachingPlan", spec := "fnTeachingPlan", unfollowed := true, recurses := true, named := ["loop.example/shatteredsets/impl.setsWith"], apart := false, laid := [("loop.example/shatteredsets/impl.setsWith", laid_loop_example_shatteredsets_impl_setsWith)], narrowed := true }
def FnTeachingPlanUptoSaid : Prop := fnTeachingPlanUptoRow.holds Tryd.pinned (OpenSpec.upto fnTeachingPlanSpec)

/-- 'laws.FnLearnPlan', WHERE WHAT IT READS IS OF BULK AT MOST 1048576: true; the input reads as it did. -/
def fnLearnPlanUptoRow : OpenClaim := { program := "ythmipnflbiclbaadoor", sum := "e019e884fc4bea0068ab1238479973fef3803a98470d3f803d0da6bf36625323", func := "loop.example/shatteredsets/laws.FnLearnPlan", spec := "fnLearnPlan", unfollowed := true, recurses := true, named := ["loop.example/shatteredsets/impl.setsWith"], apart := false, laid := [("loop.example/shatteredsets/impl.setsWith", laid_loop_example_shatteredsets_impl_setsWith)], narrowed := true }
def FnLearnPlanUptoSaid : Prop := fnLearnPlanUptoRow.holds Tryd.pinned (OpenSpec.upto fnLearnPlanSpec)

/-- 'laws.FnTeachingsOf', WHERE WHAT IT READS IS OF BULK AT MOST 1048576: true; the input reads as it did. -/
def fnTeachingsOfUptoRow : OpenClaim := { program := "ythmipnflbiclbaadoor", sum := "e019e884fc4bea0068ab1238479973fef3803a98470d3f803d0da6bf36625323", func := "loop.example/shatteredsets/laws.FnTeachingsOf", spec := "fnTeachingsOf", unfollowed := true, recurses := true, named := ["loop.example/shatteredsets/impl.setsWith"], apart := false, laid := [("loop.example/shatteredsets/impl.setsWith", laid_loop_example_shatteredsets_impl_setsWith)], narrowed := true }
def FnTeachingsOfUptoSaid : Prop := fnTeachingsOfUptoRow.holds Tryd.pinned (OpenSpec.upto fnTeachingsOfSpec)

/-- 'laws.FnExactEquivalenceDepth', WHERE WHAT IT READS IS OF BULK AT MOST 1048576: true; the input reads as it did. -/
def fnExactEquivalenceDepthUptoRow : OpenClaim := { program := "ythmipnflbiclbaadoor", sum := "e019e884fc4bea0068ab1238479973fef3803a98470d3f803d0da6bf36625323", func := "loop.example/shatteredsets/laws.FnExactEquivalenceDepth", spec := "fnExactEquivalenceDepth", unfollowed := true, recurses := true, named := ["loop.example/shatteredsets/impl.setsWith"], apart := false, laid := [("loop.example/shatteredsets/impl.setsWith", laid_loop_example_shatteredsets_impl_setsWith)], narrowed := true }
def FnExactEquivalenceDepthUptoSaid : Prop := fnExactEquivalenceDepthUptoRow.holds Tryd.pinned (OpenSpec.upto fnExactEquivalenceDepthSpec)

/-- 'laws.FnExactLayersOf', WHERE WHAT IT READS IS OF BULK AT MOST 1048576: true; the input reads as it did. -/
def fnExactLayersOfUptoRow : OpenClaim := { program := "ythmipnflbiclbaadoor", sum := "e019e884fc4bea0068ab1238479973fef3803a98470d3f803d0da6bf36625323", func := "loop.example/shatteredsets/laws.FnExactLayersOf", spec := "fnExactLayersOf", unfollowed := true, recurses := true, named := ["loop.example/shatteredsets/impl.setsWith"], apart := false, laid := [("loop.example/shatteredsets/impl.setsWith", laid_loop_example_shatteredsets_impl_setsWith)], narrowed := true }
def FnExactLayersOfUptoSaid : Prop := fnExactLayersOfUptoRow.holds Tryd.pinned (OpenSpec.upto fnExactLayersOfSpec)

/-- 'laws.FnExactLearnPlan', WHERE WHAT IT READS IS OF BULK AT MOST 1048576: true; the input reads as it did. -/
def fnExactLearnPlanUptoRow : OpenClaim := { program := "ythmipnflbiclbaadoor", sum := "e019e884fc4bea0068ab1238479973fef3803a98470d3f803d0da6bf36625323", func := "loop.example/shatteredsets/laws.FnExactLearnPlan", spec := "fnExactLearnPlan", unfollowed := true, recurses := true, named := ["loop.example/shatteredsets/impl.setsWith"], apart := false, laid := [("loop.example/shatteredsets/impl.setsWith", laid_loop_example_shatteredsets_impl_setsWith)], narrowed := true }
def FnExactLearnPlanUptoSaid : Prop := fnExactLearnPlanUptoRow.holds Tryd.pinned (OpenSpec.upto fnExactLearnPlanSpec)

end Rows
end Go.Proofs.YthmipnflbiclbaaDoor
