/-
  NARROWER THAN 'FOR EVERY INPUT', by the rows' own cells (each row's printed sentence says how): FnConsistentOf: laid · FnLabelsOf: laid · FnHalvingRun: laid · FnOptimalRun: laid · FnBestOf: laid · FnThresholdClass: laid · FnWorstRun: laid · FnIsTeaching: laid.
  DERIVED. THE GIVEN ROWS OF THIS SEAT. 8 by the template 'for every input the law returns true; each argument reads behind the call as it read before'; 0 by the template 'total and deterministic' (their statements: YtiocaopabkbgpaaDoorTotals.lean).
  GIVEN WITH THE SEED: the statements are not yours to turn. If you find one false, say at which input.
  Laid BY PROGRAM, IN A SANDBOX (cutbox-rows.mjs): the forced cells as the released guide's own fill.sh prints them over the translation cd27f32ecd5d06a2… (all of the seat's roots in one cut). By AI agents, Wed Nov 11 2026. No macro, syntax, notation, axiom, sorry.
-/
import Derived.Test.YtiocaopabkbgpaaDoorChecked
import GoSem.Claim
import GoSem.ClaimJoined
import GoSem.ClaimMapViews
import Derived.JoinedTies
import Derived.KernelRfl
namespace Go.Proofs.YtiocaopabkbgpaaDoor
/- THE CELL 'sum', in the pinned program and in every row, IS THE sha256 OF THE DUMP (.gsa) THAT YtiocaopabkbgpaaDoorProg.lean LOADS. Nothing in Lean hashes anything: it is a label: what it is worth is what the hold of that sum in a sandbox is worth. -/
noncomputable def Tryd.pinned : Pinned := { name := "ytiocaopabkbgpaadoor", sum := "cd27f32ecd5d06a219149e7ca5725de02a441ac878513b119d7f63815210216f", checked := Tryd.checked }
namespace Rows
def none {H : Type} : Left H := { results := [], args := [] }

/- WHAT THE LISTED PACKAGE-LEVEL VARIABLES READ AS WHEN THE CALL BEGINS. Each datum BY PROGRAM (the guide's laid-datum.mjs) off the statement by which the dump's own 'gosem.cut.vars' lays the variable. In a bare row this is a premise. The card (YtiocaopabkbgpaaDoorCards.lean) ties it to the program's text. -/
def laid_loop_example_shatteredsets_impl_setsWith {H : Type} : DataW H := .agg [.lit (.int .u32 2863311530), .lit (.int .u32 3435973836), .lit (.int .u32 4042322160), .lit (.int .u32 4278255360), .lit (.int .u32 4294901760)]

/-- 'laws.FnConsistentOf': WHATEVER THE INPUT: true; the input reads as it did. -/
def fnConsistentOfSpec : ChangeSpec := { name := "fnConsistentOf", vars := ["loop.example/shatteredsets/impl.setsWith"], fn := fun _ => fun
  | [d, g1] => { results := [.lit (.bool true)], args := [d], vars := [g1] }
  | _ => none }
def fnConsistentOfRow : OpenClaim := { program := "ytiocaopabkbgpaadoor", sum := "cd27f32ecd5d06a219149e7ca5725de02a441ac878513b119d7f63815210216f", func := "loop.example/shatteredsets/laws.FnConsistentOf", spec := "fnConsistentOf", unfollowed := true, recurses := true, named := ["loop.example/shatteredsets/impl.setsWith"], apart := false, laid := [("loop.example/shatteredsets/impl.setsWith", laid_loop_example_shatteredsets_impl_setsWith)] }
def FnConsistentOfSaid : Prop := fnConsistentOfRow.holds Tryd.pinned (OpenSpec.ofChange fnConsistentOfSpec)

/-- ITS FALSE NEIGHBOUR: 'it returns false'. Refute it at one input. -/
def fnConsistentOfWrong : ChangeSpec := { name := "fnConsistentOf", vars := ["loop.example/shatteredsets/impl.setsWith"], fn := fun _ => fun
  | [d, g1] => { results := [.lit (.bool false)], args := [d], vars := [g1] }
  | _ => none }
def FnConsistentOfWrongFalsely : Prop := fnConsistentOfRow.holds Tryd.pinned (OpenSpec.ofChange fnConsistentOfWrong)

/-- 'laws.FnLabelsOf': WHATEVER THE INPUT: true; the input reads as it did. -/
def fnLabelsOfSpec : ChangeSpec := { name := "fnLabelsOf", vars := ["loop.example/shatteredsets/impl.setsWith"], fn := fun _ => fun
  | [d, g1] => { results := [.lit (.bool true)], args := [d], vars := [g1] }
  | _ => none }
def fnLabelsOfRow : OpenClaim := { program := "ytiocaopabkbgpaadoor", sum := "cd27f32ecd5d06a219149e7ca5725de02a441ac878513b119d7f63815210216f", func := "loop.example/shatteredsets/laws.FnLabelsOf", spec := "fnLabelsOf", unfollowed := true, recurses := true, named := ["loop.example/shatteredsets/impl.setsWith"], apart := false, laid := [("loop.example/shatteredsets/impl.setsWith", laid_loop_example_shatteredsets_impl_setsWith)] }
def FnLabelsOfSaid : Prop := fnLabelsOfRow.holds Tryd.pinned (OpenSpec.ofChange fnLabelsOfSpec)

/-- ITS FALSE NEIGHBOUR: 'it returns false'. Refute it at one input. -/
def fnLabelsOfWrong : ChangeSpec := { name := "fnLabelsOf", vars := ["loop.example/shatteredsets/impl.setsWith"], fn := fun _ => fun
  | [d, g1] => { results := [.lit (.bool false)], args := [d], vars := [g1] }
  | _ => none }
def FnLabelsOfWrongFalsely : Prop := fnLabelsOfRow.holds Tryd.pinned (OpenSpec.ofChange fnLabelsOfWrong)

/-- 'laws.FnHalvingRun': WHATEVER THE INPUT: true; the input reads as it did. -/
def fnHalvingRunSpec : ChangeSpec := { name := "fnHalvingRun", vars := ["loop.example/shatteredsets/impl.setsWith"], fn := fun _ => fun
  | [d, g1] => { results := [.lit (.bool true)], args := [d], vars := [g1] }
  | _ => none }
def fnHalvingRunRow : OpenClaim := { program := "ytiocaopabkbgpaadoor", sum := "cd27f32ecd5d06a219149e7ca5725de02a441ac878513b119d7f63815210216f", func := "loop.example/shatteredsets/laws.FnHalvingRun", spec := "fnHalvingRun", unfollowed := true, recurses := true, named := ["loop.example/shatteredsets/impl.setsWith"], apart := false, laid := [("loop.example/shatteredsets/impl.setsWith", laid_loop_example_shatteredsets_impl_setsWith)] }
def FnHalvingRunSaid : Prop := fnHalvingRunRow.holds Tryd.pinned (OpenSpec.ofChange fnHalvingRunSpec)

/-- ITS FALSE NEIGHBOUR: 'it returns false'. Refute it at one input. -/
def fnHalvingRunWrong : ChangeSpec := { name := "fnHalvingRun", vars := ["loop.example/shatteredsets/impl.setsWith"], fn := fun _ => fun
  | [d, g1] => { results := [.lit (.bool false)], args := [d], vars := [g1] }
  | _ => none }
def FnHalvingRunWrongFalsely : Prop := fnHalvingRunRow.holds Tryd.pinned (OpenSpec.ofChange fnHalvingRunWrong)

/-- 'laws.FnOptimalRun': WHATEVER THE INPUT: true; the input reads as it did. -/
def fnOptimalRunSpec : ChangeSpec := { name := "fnOptimalRun", vars := ["loop.example/shatteredsets/impl.setsWith"], fn := fun _ => fun
  | [d, g1] => { results := [.lit (.bool true)], args := [d], vars := [g1] }
  | _ => none }
def fnOptimalRunRow : OpenClaim := { program := "ytiocaopabkbgpaadoor", sum := "cd27f32ecd5d06a219149e7ca5725de02a441ac878513b119d7f63815210216f", func := "loop.example/shatteredsets/laws.FnOptimalRun", spec := "fnOptimalRun", unfollowed := true, recurses := true, named := ["loop.example/shatteredsets/impl.setsWith"], apart := false, laid := [("loop.example/shatteredsets/impl.setsWith", laid_loop_example_shatteredsets_impl_setsWith)] }
def FnOptimalRunSaid : Prop := fnOptimalRunRow.holds Tryd.pinned (OpenSpec.ofChange fnOptimalRunSpec)

/-- ITS FALSE NEIGHBOUR: 'it returns false'. Refute it at one input. -/
def fnOptimalRunWrong : ChangeSpec := { name := "fnOptimalRun", vars := ["loop.example/shatteredsets/impl.setsWith"], fn := fun _ => fun
  | [d, g1] => { results := [.lit (.bool false)], args := [d], vars := [g1] }
  | _ => none }
def FnOptimalRunWrongFalsely : Prop := fnOptimalRunRow.holds Tryd.pinned (OpenSpec.ofChange fnOptimalRunWrong)

/-- 'laws.FnBestOf': WHATEVER THE INPUT: true; the input reads as it did. -/
def fnBestOfSpec : ChangeSpec := { name := "fnBestOf", vars := ["loop.example/shatteredsets/impl.setsWith"], fn := fun _ => fun
  | [d, g1] => { results := [.lit (.bool true)], args := [d], vars := [g1] }
  | _ => none }
def fnBestOfRow : OpenClaim := { program := "ytiocaopabkbgpaadoor", sum := "cd27f32ecd5d06a219149e7ca5725de02a441ac878513b119d7f63815210216f", func := "loop.example/shatteredsets/laws.FnBestOf", spec := "fnBestOf", unfollowed := true, recurses := true, named := ["loop.example/shatteredsets/impl.setsWith"], apart := false, laid := [("loop.example/shatteredsets/impl.setsWith", laid_loop_example_shatteredsets_impl_setsWith)] }
def FnBestOfSaid : Prop := fnBestOfRow.holds Tryd.pinned (OpenSpec.ofChange fnBestOfSpec)

/-- ITS FALSE NEIGHBOUR: 'it returns false'. Refute it at one input. -/
def fnBestOfWrong : ChangeSpec := { name := "fnBestOf", vars := ["loop.example/shatteredsets/impl.setsWith"], fn := fun _ => fun
  | [d, g1] => { results := [.lit (.bool false)], args := [d], vars := [g1] }
  | _ => none }
def FnBestOfWrongFalsely : Prop := fnBestOfRow.holds Tryd.pinned (OpenSpec.ofChange fnBestOfWrong)

/-- 'laws.FnThresholdClass': WHATEVER THE INPUT: true; the input reads as it did. -/
def fnThresholdClassSpec : ChangeSpec := { name := "fnThresholdClass", vars := ["loop.example/shatteredsets/impl.setsWith"], fn := fun _ => fun
  | [d, g1] => { results := [.lit (.bool true)], args := [d], vars := [g1] }
  | _ => none }
def fnThresholdClassRow : OpenClaim := { program := "ytiocaopabkbgpaadoor", sum := "cd27f32ecd5d06a219149e7ca5725de02a441ac878513b119d7f63815210216f", func := "loop.example/shatteredsets/laws.FnThresholdClass", spec := "fnThresholdClass", unfollowed := true, recurses := true, named := ["loop.example/shatteredsets/impl.setsWith"], apart := false, laid := [("loop.example/shatteredsets/impl.setsWith", laid_loop_example_shatteredsets_impl_setsWith)] }
def FnThresholdClassSaid : Prop := fnThresholdClassRow.holds Tryd.pinned (OpenSpec.ofChange fnThresholdClassSpec)

/-- ITS FALSE NEIGHBOUR: 'it returns false'. Refute it at one input. -/
def fnThresholdClassWrong : ChangeSpec := { name := "fnThresholdClass", vars := ["loop.example/shatteredsets/impl.setsWith"], fn := fun _ => fun
  | [d, g1] => { results := [.lit (.bool false)], args := [d], vars := [g1] }
  | _ => none }
def FnThresholdClassWrongFalsely : Prop := fnThresholdClassRow.holds Tryd.pinned (OpenSpec.ofChange fnThresholdClassWrong)

/-- 'laws.FnWorstRun': WHATEVER THE INPUT: true; the input reads as it did. -/
def fnWorstRunSpec : ChangeSpec := { name := "fnWorstRun", vars := ["loop.example/shatteredsets/impl.setsWith"], fn := fun _ => fun
  | [d, g1] => { results := [.lit (.bool true)], args := [d], vars := [g1] }
  | _ => none }
def fnWorstRunRow : OpenClaim := { program := "ytiocaopabkbgpaadoor", sum := "cd27f32ecd5d06a219149e7ca5725de02a441ac878513b119d7f63815210216f", func := "loop.example/shatteredsets/laws.FnWorstRun", spec := "fnWorstRun", unfollowed := true, recurses := true, named := ["loop.example/shatteredsets/impl.setsWith"], apart := false, laid := [("loop.example/shatteredsets/impl.setsWith", laid_loop_example_shatteredsets_impl_setsWith)] }
def FnWorstRunSaid : Prop := fnWorstRunRow.holds Tryd.pinned (OpenSpec.ofChange fnWorstRunSpec)

/-- ITS FALSE NEIGHBOUR: 'it returns false'. Refute it at one input. -/
def fnWorstRunWrong : ChangeSpec := { name := "fnWorstRun", vars := ["loop.example/shatteredsets/impl.setsWith"], fn := fun _ => fun
  | [d, g1] => { results := [.lit (.bool false)], args := [d], vars := [g1] }
  | _ => none }
def FnWorstRunWrongFalsely : Prop := fnWorstRunRow.holds Tryd.pinned (OpenSpec.ofChange fnWorstRunWrong)

/-- 'laws.FnIsTeaching': WHATEVER THE INPUT: true; the input reads as it did. -/
def fnIsTeachingSpec : ChangeSpec := { name := "fnIsTeaching", vars := ["loop.example/shatteredsets/impl.setsWith"], fn := fun _ => fun
  | [d, g1] => { results := [.lit (.bool true)], args := [d], vars := [g1] }
  | _ => none }
def fnIsTeachingRow : OpenClaim := { program := "ytiocaopabkbgpaadoor", sum := "cd27f32ecd5d06a219149e7ca5725de02a441ac878513b119d7f63815210216f", func := "loop.example/shatteredsets/laws.FnIsTeaching", spec := "fnIsTeaching", unfollowed := true, recurses := true, named := ["loop.example/shatteredsets/impl.setsWith"], apart := false, laid := [("loop.example/shatteredsets/impl.setsWith", laid_loop_example_shatteredsets_impl_setsWith)] }
def FnIsTeachingSaid : Prop := fnIsTeachingRow.holds Tryd.pinned (OpenSpec.ofChange fnIsTeachingSpec)

/-- ITS FALSE NEIGHBOUR: 'it returns false'. Refute it at one input. -/
def fnIsTeachingWrong : ChangeSpec := { name := "fnIsTeaching", vars := ["loop.example/shatteredsets/impl.setsWith"], fn := fun _ => fun
  | [d, g1] => { results := [.lit (.bool false)], args := [d], vars := [g1] }
  | _ => none }
def FnIsTeachingWrongFalsely : Prop := fnIsTeachingRow.holds Tryd.pinned (OpenSpec.ofChange fnIsTeachingWrong)

/- THE SECOND FORM. 'bulk': how many values and letters a reading holds, each counted each time it is reached (what is shared counts as often as it is met; a slice's spare places count too). A statement '..UptoSaid' is the law's where the arguments, and the package variables that the reading takes, are together of bulk at most 1048576: NARROWER than '..Said'. Prove '..Said' where nothing that the law and all that it calls make is longer than what came in: it says more and counts as full. Else prove '..UptoSaid'. A law counts once. -/
mutual
def uptoBulk {H : Type} : DataW H → Nat
  | .lit (.string bytes) => bytes.length + 1
  | .lit _ => 1
  | .nil => 1
  | .ptr d => uptoBulk d + 1
  | .slice elems spare => uptoBulkAll elems + uptoBulkAll spare + 1
  | .agg parts => uptoBulkAll parts + 1
  | .iface _ d => uptoBulk d + 1
  | .map entries => uptoBulkEntries entries + 1
  | .held _ => 1
def uptoBulkAll {H : Type} : List (DataW H) → Nat
  | [] => 0
  | d :: r => uptoBulk d + uptoBulkAll r
def uptoBulkEntries {H : Type} : List (Lit × DataW H) → Nat
  | [] => 0
  | x :: r => uptoBulkEntry x + uptoBulkEntries r
def uptoBulkEntry {H : Type} : Lit × DataW H → Nat
  | (.string bytes, d) => bytes.length + uptoBulk d + 1
  | (_, d) => uptoBulk d + 1
 end
def uptoSmall : (H : Type) → List (DataW H) → Bool := fun _ ds => decide (uptoBulkAll ds ≤ 1048576)
def OpenSpec.upto (s : _root_.Go.ChangeSpec) : _root_.Go.OpenSpec := { _root_.Go.OpenSpec.ofChange s with cond := some uptoSmall }

/-- 'laws.FnConsistentOf', WHERE WHAT IT READS IS OF BULK AT MOST 1048576: true; the input reads as it did. -/
def fnConsistentOfUptoRow : OpenClaim := { program := "ytiocaopabkbgpaadoor", sum := "cd27f32ecd5d06a219149e7ca5725de02a441ac878513b119d7f63815210216f", func := "loop.example/shatteredsets/laws.FnConsistentOf", spec := "fnConsistentOf", unfollowed := true, recurses := true, named := ["loop.example/shatteredsets/impl.setsWith"], apart := false, laid := [("loop.example/shatteredsets/impl.setsWith", laid_loop_example_shatteredsets_impl_setsWith)], narrowed := true }
def FnConsistentOfUptoSaid : Prop := fnConsistentOfUptoRow.holds Tryd.pinned (OpenSpec.upto fnConsistentOfSpec)

/-- 'laws.FnLabelsOf', WHERE WHAT IT READS IS OF BULK AT MOST 1048576: true; the input reads as it did. -/
def fnLabelsOfUptoRow : OpenClaim := { program := "ytiocaopabkbgpaadoor", sum := "cd27f32ecd5d06a219149e7ca5725de02a441ac878513b119d7f63815210216f", func := "loop.example/shatteredsets/laws.FnLabelsOf", spec := "fnLabelsOf", unfollowed := true, recurses := true, named := ["loop.example/shatteredsets/impl.setsWith"], apart := false, laid := [("loop.example/shatteredsets/impl.setsWith", laid_loop_example_shatteredsets_impl_setsWith)], narrowed := true }
def FnLabelsOfUptoSaid : Prop := fnLabelsOfUptoRow.holds Tryd.pinned (OpenSpec.upto fnLabelsOfSpec)

/-- 'laws.FnHalvingRun', WHERE WHAT IT READS IS OF BULK AT MOST 1048576: true; the input reads as it did. -/
def fnHalvingRunUptoRow : OpenClaim := { program := "ytiocaopabkbgpaadoor", sum := "cd27f32ecd5d06a219149e7ca5725de02a441ac878513b119d7f63815210216f", func := "loop.example/shatteredsets/laws.FnHalvingRun", spec := "fnHalvingRun", unfollowed := true, recurses := true, named := ["loop.example/shatteredsets/impl.setsWith"], apart := false, laid := [("loop.example/shatteredsets/impl.setsWith", laid_loop_example_shatteredsets_impl_setsWith)], narrowed := true }
def FnHalvingRunUptoSaid : Prop := fnHalvingRunUptoRow.holds Tryd.pinned (OpenSpec.upto fnHalvingRunSpec)

/-- 'laws.FnOptimalRun', WHERE WHAT IT READS IS OF BULK AT MOST 1048576: true; the input reads as it did. -/
def fnOptimalRunUptoRow : OpenClaim := { program := "ytiocaopabkbgpaadoor", sum := "cd27f32ecd5d06a219149e7ca5725de02a441ac878513b119d7f63815210216f", func := "loop.example/shatteredsets/laws.FnOptimalRun", spec := "fnOptimalRun", unfollowed := true, recurses := true, named := ["loop.example/shatteredsets/impl.setsWith"], apart := false, laid := [("loop.example/shatteredsets/impl.setsWith", laid_loop_example_shatteredsets_impl_setsWith)], narrowed := true }
def FnOptimalRunUptoSaid : Prop := fnOptimalRunUptoRow.holds Tryd.pinned (OpenSpec.upto fnOptimalRunSpec)

/-- 'laws.FnBestOf', WHERE WHAT IT READS IS OF BULK AT MOST 1048576: true; the input reads as it did. -/
def fnBestOfUptoRow : OpenClaim := { program := "ytiocaopabkbgpaadoor", sum := "cd27f32ecd5d06a219149e7ca5725de02a441ac878513b119d7f63815210216f", func := "loop.example/shatteredsets/laws.FnBestOf", spec := "fnBestOf", unfollowed := true, recurses := true, named := ["loop.example/shatteredsets/impl.setsWith"], apart := false, laid := [("loop.example/shatteredsets/impl.setsWith", laid_loop_example_shatteredsets_impl_setsWith)], narrowed := true }
def FnBestOfUptoSaid : Prop := fnBestOfUptoRow.holds Tryd.pinned (OpenSpec.upto fnBestOfSpec)

/-- 'laws.FnThresholdClass', WHERE WHAT IT READS IS OF BULK AT MOST 1048576: true; the input reads as it did. -/
def fnThresholdClassUptoRow : OpenClaim := { program := "ytiocaopabkbgpaadoor", sum := "cd27f32ecd5d06a219149e7ca5725de02a441ac878513b119d7f63815210216f", func := "loop.example/shatteredsets/laws.FnThresholdClass", spec := "fnThresholdClass", unfollowed := true, recurses := true, named := ["loop.example/shatteredsets/impl.setsWith"], apart := false, laid := [("loop.example/shatteredsets/impl.setsWith", laid_loop_example_shatteredsets_impl_setsWith)], narrowed := true }
def FnThresholdClassUptoSaid : Prop := fnThresholdClassUptoRow.holds Tryd.pinned (OpenSpec.upto fnThresholdClassSpec)

/-- 'laws.FnWorstRun', WHERE WHAT IT READS IS OF BULK AT MOST 1048576: true; the input reads as it did. -/
def fnWorstRunUptoRow : OpenClaim := { program := "ytiocaopabkbgpaadoor", sum := "cd27f32ecd5d06a219149e7ca5725de02a441ac878513b119d7f63815210216f", func := "loop.example/shatteredsets/laws.FnWorstRun", spec := "fnWorstRun", unfollowed := true, recurses := true, named := ["loop.example/shatteredsets/impl.setsWith"], apart := false, laid := [("loop.example/shatteredsets/impl.setsWith", laid_loop_example_shatteredsets_impl_setsWith)], narrowed := true }
def FnWorstRunUptoSaid : Prop := fnWorstRunUptoRow.holds Tryd.pinned (OpenSpec.upto fnWorstRunSpec)

/-- 'laws.FnIsTeaching', WHERE WHAT IT READS IS OF BULK AT MOST 1048576: true; the input reads as it did. -/
def fnIsTeachingUptoRow : OpenClaim := { program := "ytiocaopabkbgpaadoor", sum := "cd27f32ecd5d06a219149e7ca5725de02a441ac878513b119d7f63815210216f", func := "loop.example/shatteredsets/laws.FnIsTeaching", spec := "fnIsTeaching", unfollowed := true, recurses := true, named := ["loop.example/shatteredsets/impl.setsWith"], apart := false, laid := [("loop.example/shatteredsets/impl.setsWith", laid_loop_example_shatteredsets_impl_setsWith)], narrowed := true }
def FnIsTeachingUptoSaid : Prop := fnIsTeachingUptoRow.holds Tryd.pinned (OpenSpec.upto fnIsTeachingSpec)

end Rows
end Go.Proofs.YtiocaopabkbgpaaDoor
