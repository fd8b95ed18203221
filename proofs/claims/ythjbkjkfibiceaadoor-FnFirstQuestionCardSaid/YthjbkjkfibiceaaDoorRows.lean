/-
  NARROWER THAN 'FOR EVERY INPUT', by the rows' own cells (each row's printed sentence says how): FnTeachingNumbers: laid · FnFirstTeaching: laid · FnDisagreementOf: laid · FnMajorityOf: laid · FnFirstQuestion: laid.
  DERIVED. THE GIVEN ROWS OF THIS SEAT. 5 by the template 'for every input the law returns true; each argument reads behind the call as it read before'; 0 by the template 'total and deterministic' (their statements: YthjbkjkfibiceaaDoorTotals.lean).
  GIVEN WITH THE SEED: the statements are not yours to turn. If you find one false, say at which input.
  Laid BY PROGRAM, IN A SANDBOX (cutbox-rows.mjs): the forced cells as the released guide's own fill.sh prints them over the translation f5e88aa91d0b5d36… (all of the seat's roots in one cut). By AI agents, Wed Nov 11 2026. No macro, syntax, notation, axiom, sorry.
-/
import Derived.Test.YthjbkjkfibiceaaDoorChecked
import GoSem.Claim
import GoSem.ClaimJoined
import GoSem.ClaimMapViews
import Derived.JoinedTies
import Derived.KernelRfl
namespace Go.Proofs.YthjbkjkfibiceaaDoor
/- THE CELL 'sum', in the pinned program and in every row, IS THE sha256 OF THE DUMP (.gsa) THAT YthjbkjkfibiceaaDoorProg.lean LOADS. Nothing in Lean hashes anything: it is a label: what it is worth is what the hold of that sum in a sandbox is worth. -/
noncomputable def Tryd.pinned : Pinned := { name := "ythjbkjkfibiceaadoor", sum := "f5e88aa91d0b5d368c3b7e98a7359c4aa2efdc18b226cb5424fc2c1a62ff38f6", checked := Tryd.checked }
namespace Rows
def none {H : Type} : Left H := { results := [], args := [] }

/- WHAT THE LISTED PACKAGE-LEVEL VARIABLES READ AS WHEN THE CALL BEGINS. Each datum BY PROGRAM (the guide's laid-datum.mjs) off the statement by which the dump's own 'gosem.cut.vars' lays the variable. In a bare row this is a premise. The card (YthjbkjkfibiceaaDoorCards.lean) ties it to the program's text. -/
def laid_loop_example_shatteredsets_impl_setsWith {H : Type} : DataW H := .agg [.lit (.int .u32 2863311530), .lit (.int .u32 3435973836), .lit (.int .u32 4042322160), .lit (.int .u32 4278255360), .lit (.int .u32 4294901760)]

/-- 'laws.FnTeachingNumbers': WHATEVER THE INPUT: true; the input reads as it did. -/
def fnTeachingNumbersSpec : ChangeSpec := { name := "fnTeachingNumbers", vars := ["loop.example/shatteredsets/impl.setsWith"], fn := fun _ => fun
  | [d, g1] => { results := [.lit (.bool true)], args := [d], vars := [g1] }
  | _ => none }
def fnTeachingNumbersRow : OpenClaim := { program := "ythjbkjkfibiceaadoor", sum := "f5e88aa91d0b5d368c3b7e98a7359c4aa2efdc18b226cb5424fc2c1a62ff38f6", func := "loop.example/shatteredsets/laws.FnTeachingNumbers", spec := "fnTeachingNumbers", unfollowed := true, recurses := true, named := ["loop.example/shatteredsets/impl.setsWith"], apart := false, laid := [("loop.example/shatteredsets/impl.setsWith", laid_loop_example_shatteredsets_impl_setsWith)] }
def FnTeachingNumbersSaid : Prop := fnTeachingNumbersRow.holds Tryd.pinned (OpenSpec.ofChange fnTeachingNumbersSpec)

/-- ITS FALSE NEIGHBOUR: 'it returns false'. Refute it at one input. -/
def fnTeachingNumbersWrong : ChangeSpec := { name := "fnTeachingNumbers", vars := ["loop.example/shatteredsets/impl.setsWith"], fn := fun _ => fun
  | [d, g1] => { results := [.lit (.bool false)], args := [d], vars := [g1] }
  | _ => none }
def FnTeachingNumbersWrongFalsely : Prop := fnTeachingNumbersRow.holds Tryd.pinned (OpenSpec.ofChange fnTeachingNumbersWrong)

/-- 'laws.FnFirstTeaching': WHATEVER THE INPUT: true; the input reads as it did. -/
def fnFirstTeachingSpec : ChangeSpec := { name := "fnFirstTeaching", vars := ["loop.example/shatteredsets/impl.setsWith"], fn := fun _ => fun
  | [d, g1] => { results := [.lit (.bool true)], args := [d], vars := [g1] }
  | _ => none }
def fnFirstTeachingRow : OpenClaim := { program := "ythjbkjkfibiceaadoor", sum := "f5e88aa91d0b5d368c3b7e98a7359c4aa2efdc18b226cb5424fc2c1a62ff38f6", func := "loop.example/shatteredsets/laws.FnFirstTeaching", spec := "fnFirstTeaching", unfollowed := true, recurses := true, named := ["loop.example/shatteredsets/impl.setsWith"], apart := false, laid := [("loop.example/shatteredsets/impl.setsWith", laid_loop_example_shatteredsets_impl_setsWith)] }
def FnFirstTeachingSaid : Prop := fnFirstTeachingRow.holds Tryd.pinned (OpenSpec.ofChange fnFirstTeachingSpec)

/-- ITS FALSE NEIGHBOUR: 'it returns false'. Refute it at one input. -/
def fnFirstTeachingWrong : ChangeSpec := { name := "fnFirstTeaching", vars := ["loop.example/shatteredsets/impl.setsWith"], fn := fun _ => fun
  | [d, g1] => { results := [.lit (.bool false)], args := [d], vars := [g1] }
  | _ => none }
def FnFirstTeachingWrongFalsely : Prop := fnFirstTeachingRow.holds Tryd.pinned (OpenSpec.ofChange fnFirstTeachingWrong)

/-- 'laws.FnDisagreementOf': WHATEVER THE INPUT: true; the input reads as it did. -/
def fnDisagreementOfSpec : ChangeSpec := { name := "fnDisagreementOf", vars := ["loop.example/shatteredsets/impl.setsWith"], fn := fun _ => fun
  | [d, g1] => { results := [.lit (.bool true)], args := [d], vars := [g1] }
  | _ => none }
def fnDisagreementOfRow : OpenClaim := { program := "ythjbkjkfibiceaadoor", sum := "f5e88aa91d0b5d368c3b7e98a7359c4aa2efdc18b226cb5424fc2c1a62ff38f6", func := "loop.example/shatteredsets/laws.FnDisagreementOf", spec := "fnDisagreementOf", named := ["loop.example/shatteredsets/impl.setsWith"], apart := false, laid := [("loop.example/shatteredsets/impl.setsWith", laid_loop_example_shatteredsets_impl_setsWith)] }
def FnDisagreementOfSaid : Prop := fnDisagreementOfRow.holds Tryd.pinned (OpenSpec.ofChange fnDisagreementOfSpec)

/-- ITS FALSE NEIGHBOUR: 'it returns false'. Refute it at one input. -/
def fnDisagreementOfWrong : ChangeSpec := { name := "fnDisagreementOf", vars := ["loop.example/shatteredsets/impl.setsWith"], fn := fun _ => fun
  | [d, g1] => { results := [.lit (.bool false)], args := [d], vars := [g1] }
  | _ => none }
def FnDisagreementOfWrongFalsely : Prop := fnDisagreementOfRow.holds Tryd.pinned (OpenSpec.ofChange fnDisagreementOfWrong)

/-- 'laws.FnMajorityOf': WHATEVER THE INPUT: true; the input reads as it did. -/
def fnMajorityOfSpec : ChangeSpec := { name := "fnMajorityOf", vars := ["loop.example/shatteredsets/impl.setsWith"], fn := fun _ => fun
  | [d, g1] => { results := [.lit (.bool true)], args := [d], vars := [g1] }
  | _ => none }
def fnMajorityOfRow : OpenClaim := { program := "ythjbkjkfibiceaadoor", sum := "f5e88aa91d0b5d368c3b7e98a7359c4aa2efdc18b226cb5424fc2c1a62ff38f6", func := "loop.example/shatteredsets/laws.FnMajorityOf", spec := "fnMajorityOf", named := ["loop.example/shatteredsets/impl.setsWith"], apart := false, laid := [("loop.example/shatteredsets/impl.setsWith", laid_loop_example_shatteredsets_impl_setsWith)] }
def FnMajorityOfSaid : Prop := fnMajorityOfRow.holds Tryd.pinned (OpenSpec.ofChange fnMajorityOfSpec)

/-- ITS FALSE NEIGHBOUR: 'it returns false'. Refute it at one input. -/
def fnMajorityOfWrong : ChangeSpec := { name := "fnMajorityOf", vars := ["loop.example/shatteredsets/impl.setsWith"], fn := fun _ => fun
  | [d, g1] => { results := [.lit (.bool false)], args := [d], vars := [g1] }
  | _ => none }
def FnMajorityOfWrongFalsely : Prop := fnMajorityOfRow.holds Tryd.pinned (OpenSpec.ofChange fnMajorityOfWrong)

/-- 'laws.FnFirstQuestion': WHATEVER THE INPUT: true; the input reads as it did. -/
def fnFirstQuestionSpec : ChangeSpec := { name := "fnFirstQuestion", vars := ["loop.example/shatteredsets/impl.setsWith"], fn := fun _ => fun
  | [d, g1] => { results := [.lit (.bool true)], args := [d], vars := [g1] }
  | _ => none }
def fnFirstQuestionRow : OpenClaim := { program := "ythjbkjkfibiceaadoor", sum := "f5e88aa91d0b5d368c3b7e98a7359c4aa2efdc18b226cb5424fc2c1a62ff38f6", func := "loop.example/shatteredsets/laws.FnFirstQuestion", spec := "fnFirstQuestion", unfollowed := true, recurses := true, named := ["loop.example/shatteredsets/impl.setsWith"], apart := false, laid := [("loop.example/shatteredsets/impl.setsWith", laid_loop_example_shatteredsets_impl_setsWith)] }
def FnFirstQuestionSaid : Prop := fnFirstQuestionRow.holds Tryd.pinned (OpenSpec.ofChange fnFirstQuestionSpec)

/-- ITS FALSE NEIGHBOUR: 'it returns false'. Refute it at one input. -/
def fnFirstQuestionWrong : ChangeSpec := { name := "fnFirstQuestion", vars := ["loop.example/shatteredsets/impl.setsWith"], fn := fun _ => fun
  | [d, g1] => { results := [.lit (.bool false)], args := [d], vars := [g1] }
  | _ => none }
def FnFirstQuestionWrongFalsely : Prop := fnFirstQuestionRow.holds Tryd.pinned (OpenSpec.ofChange fnFirstQuestionWrong)

/- THE SECOND FORM. 'bulk': how many values and letters a reading holds, each counted each time it is reached (what is shared counts as often as it is met; a slice's spare places count too). A statement '..UptoSaid' is the law's where the arguments, and the package variables that the reading takes, are together of bulk at most 1048576: NARROWER than '..Said'. Prove '..Said' where nothing that the law and all that it calls make is longer than what came in: it says more and counts as full. Else prove '..UptoSaid'. A law counts once. -/
mutual
def uptoBulk {H : Type} : DataW H → Nat
  | .lit (.string bytes) => bytes.length + 1
  | .lit _ => 1
  | .nil => 1
  | .ptr d => uptoBulk d + 1
  | .slice elems spare => uptoBulkAll elems + uptoBulkAll spare + 1
  | .agg parts => uptoBulkAll parts + 1
  | .iface _ d => uptoBulk d + 1
  | .map entries => uptoBulkEntries entries + 1
  | .held _ => 1
def uptoBulkAll {H : Type} : List (DataW H) → Nat
  | [] => 0
  | d :: r => uptoBulk d + uptoBulkAll r
def uptoBulkEntries {H : Type} : List (Lit × DataW H) → Nat
  | [] => 0
  | x :: r => uptoBulkEntry x + uptoBulkEntries r
def uptoBulkEntry {H : Type} : Lit × DataW H → Nat
  | (.string bytes, d) => bytes.length + uptoBulk d + 1
  | (_, d) => uptoBulk d + 1
 end
def uptoSmall : (H : Type) → List (DataW H) → Bool := fun _ ds => decide (uptoBulkAll ds ≤ 1048576)
def OpenSpec.upto (s : _root_.Go.ChangeSpec) : _root_.Go.OpenSpec := { _root_.Go.OpenSpec.ofChange s with cond := some uptoSmall }

/-- 'laws.FnTeachingNumbers', WHERE WHAT IT READS IS OF BULK AT MOST 1048576: true; the input reads as it did. -/
def fnTeachingNumbersUptoRow : OpenClaim := { program := "ythjbkjkfibiceaadoor", sum := "f5e88aa91d0b5d368c3b7e98a7359c4aa2efdc18b226cb5424fc2c1a62ff38f6", func := "loop.example/shatteredsets/laws.FnTeachingNumbers", spec := "fnTeachingNumbers", unfollowed := true, recurses := true, named := ["loop.example/shatteredsets/impl.setsWith"], apart := false, laid := [("loop.example/shatteredsets/impl.setsWith", laid_loop_example_shatteredsets_impl_setsWith)], narrowed := true }
def FnTeachingNumbersUptoSaid : Prop := fnTeachingNumbersUptoRow.holds Tryd.pinned (OpenSpec.upto fnTeachingNumbersSpec)

/-- 'laws.FnFirstTeaching', WHERE WHAT IT READS IS OF BULK AT MOST 1048576: true; the input reads as it did. -/
def fnFirstTeachingUptoRow : OpenClaim := { program := "ythjbkjkfibiceaadoor", sum := "f5e88aa91d0b5d368c3b7e98a7359c4aa2efdc18b226cb5424fc2c1a62ff38f6", func := "loop.example/shatteredsets/laws.FnFirstTeaching", spec := "fnFirstTeaching", unfollowed := true, recurses := true, named := ["loop.example/shatteredsets/impl.setsWith"], apart := false, laid := [("loop.example/shatteredsets/impl.setsWith", laid_loop_example_shatteredsets_impl_setsWith)], narrowed := true }
def FnFirstTeachingUptoSaid : Prop := fnFirstTeachingUptoRow.holds Tryd.pinned (OpenSpec.upto fnFirstTeachingSpec)

/-- 'laws.FnDisagreementOf', WHERE WHAT IT READS IS OF BULK AT MOST 1048576: true; the input reads as it did. -/
def fnDisagreementOfUptoRow : OpenClaim := { program := "ythjbkjkfibiceaadoor", sum := "f5e88aa91d0b5d368c3b7e98a7359c4aa2efdc18b226cb5424fc2c1a62ff38f6", func := "loop.example/shatteredsets/laws.FnDisagreementOf", spec := "fnDisagreementOf", named := ["loop.example/shatteredsets/impl.setsWith"], apart := false, laid := [("loop.example/shatteredsets/impl.setsWith", laid_loop_example_shatteredsets_impl_setsWith)], narrowed := true }
def FnDisagreementOfUptoSaid : Prop := fnDisagreementOfUptoRow.holds Tryd.pinned (OpenSpec.upto fnDisagreementOfSpec)

/-- 'laws.FnMajorityOf', WHERE WHAT IT READS IS OF BULK AT MOST 1048576: true; the input reads as it did. -/
def fnMajorityOfUptoRow : OpenClaim := { program := "ythjbkjkfibiceaadoor", sum := "f5e88aa91d0b5d368c3b7e98a7359c4aa2efdc18b226cb5424fc2c1a62ff38f6", func := "loop.example/shatteredsets/laws.FnMajorityOf", spec := "fnMajorityOf", named := ["loop.example/shatteredsets/impl.setsWith"], apart := false, laid := [("loop.example/shatteredsets/impl.setsWith", laid_loop_example_shatteredsets_impl_setsWith)], narrowed := true }
def FnMajorityOfUptoSaid : Prop := fnMajorityOfUptoRow.holds Tryd.pinned (OpenSpec.upto fnMajorityOfSpec)

/-- 'laws.FnFirstQuestion', WHERE WHAT IT READS IS OF BULK AT MOST 1048576: true; the input reads as it did. -/
def fnFirstQuestionUptoRow : OpenClaim := { program := "ythjbkjkfibiceaadoor", sum := "f5e88aa91d0b5d368c3b7e98a7359c4aa2efdc18b226cb5424fc2c1a62ff38f6", func := "loop.example/shatteredsets/laws.FnFirstQuestion", spec := "fnFirstQuestion", unfollowed := true, recurses := true, named := ["loop.example/shatteredsets/impl.setsWith"], apart := false, laid := [("loop.example/shatteredsets/impl.setsWith", laid_loop_example_shatteredsets_impl_setsWith)], narrowed := true }
def FnFirstQuestionUptoSaid : Prop := fnFirstQuestionUptoRow.holds Tryd.pinned (OpenSpec.upto fnFirstQuestionSpec)

end Rows
end Go.Proofs.YthjbkjkfibiceaaDoor
