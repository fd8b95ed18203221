/-
  NARROWER THAN 'FOR EVERY INPUT', by the rows' own cells (each row's printed sentence says how): FnExactConsistentOf: laid · FnExactHalvingRun: laid · FnExactLittlestoneOf: laid · FnExactOptimalRun: laid · FnExactWorstRun: laid · FnExactMembershipDepth: laid · FnExactFirstQuestion: laid · FnExactDisagreementOf: laid.
  DERIVED. THE GIVEN ROWS OF THIS SEAT. 8 by the template 'for every input the law returns true; each argument reads behind the call as it read before'; 0 by the template 'total and deterministic' (their statements: YtejjimfoihhcoabDoorTotals.lean).
  GIVEN WITH THE SEED: the statements are not yours to turn. If you find one false, say at which input.
  Laid BY PROGRAM, IN A SANDBOX (cutbox-rows.mjs): the forced cells as the released guide's own fill.sh prints them over the translation 6f4cf22d4bb09d3d… (all of the seat's roots in one cut). By AI agents, Wed Nov 11 2026. No macro, syntax, notation, axiom, sorry.
-/
import Derived.Test.YtejjimfoihhcoabDoorChecked
import GoSem.Claim
import GoSem.ClaimJoined
import GoSem.ClaimMapViews
import Derived.JoinedTies
import Derived.KernelRfl
namespace Go.Proofs.YtejjimfoihhcoabDoor
/- THE CELL 'sum', in the pinned program and in every row, IS THE sha256 OF THE DUMP (.gsa) THAT YtejjimfoihhcoabDoorProg.lean LOADS. Nothing in Lean hashes anything: it is a label: what it is worth is what the hold of that sum in a sandbox is worth. -/
noncomputable def Tryd.pinned : Pinned := { name := "ytejjimfoihhcoabdoor", sum := "6f4cf22d4bb09d3d696e413b534e295a8ee6843fd3d48a09a047b9a11fd742b0", checked := Tryd.checked }
namespace Rows
def none {H : Type} : Left H := { results := [], args := [] }

/- WHAT THE LISTED PACKAGE-LEVEL VARIABLES READ AS WHEN THE CALL BEGINS. Each datum BY PROGRAM (the guide's laid-datum.mjs) off the statement by which the dump's own 'gosem.cut.vars' lays the variable. In a bare row this is a premise. The card (YtejjimfoihhcoabDoorCards.lean) ties it to the program's text. -/
def laid_loop_example_shatteredsets_impl_setsWith {H : Type} : DataW H := .agg [.lit (.int .u32 2863311530), .lit (.int .u32 3435973836), .lit (.int .u32 4042322160), .lit (.int .u32 4278255360), .lit (.int .u32 4294901760)]

/-- 'laws.FnExactConsistentOf': WHATEVER THE INPUT: true; the input reads as it did. -/
def fnExactConsistentOfSpec : ChangeSpec := { name := "fnExactConsistentOf", vars := ["loop.example/shatteredsets/impl.setsWith"], fn := fun _ => fun
  | [d1, d2, g1] => { results := [.lit (.bool true)], args := [d1, d2], vars := [g1] }
  | _ => none }
def fnExactConsistentOfRow : OpenClaim := { program := "ytejjimfoihhcoabdoor", sum := "6f4cf22d4bb09d3d696e413b534e295a8ee6843fd3d48a09a047b9a11fd742b0", func := "loop.example/shatteredsets/laws.FnExactConsistentOf", spec := "fnExactConsistentOf", unfollowed := true, recurses := true, named := ["loop.example/shatteredsets/impl.setsWith"], apart := false, laid := [("loop.example/shatteredsets/impl.setsWith", laid_loop_example_shatteredsets_impl_setsWith)] }
def FnExactConsistentOfSaid : Prop := fnExactConsistentOfRow.holds Tryd.pinned (OpenSpec.ofChange fnExactConsistentOfSpec)

/-- ITS FALSE NEIGHBOUR: 'it returns false'. Refute it at one input. -/
def fnExactConsistentOfWrong : ChangeSpec := { name := "fnExactConsistentOf", vars := ["loop.example/shatteredsets/impl.setsWith"], fn := fun _ => fun
  | [d1, d2, g1] => { results := [.lit (.bool false)], args := [d1, d2], vars := [g1] }
  | _ => none }
def FnExactConsistentOfWrongFalsely : Prop := fnExactConsistentOfRow.holds Tryd.pinned (OpenSpec.ofChange fnExactConsistentOfWrong)

/-- 'laws.FnExactHalvingRun': WHATEVER THE INPUT: true; the input reads as it did. -/
def fnExactHalvingRunSpec : ChangeSpec := { name := "fnExactHalvingRun", vars := ["loop.example/shatteredsets/impl.setsWith"], fn := fun _ => fun
  | [d1, d2, g1] => { results := [.lit (.bool true)], args := [d1, d2], vars := [g1] }
  | _ => none }
def fnExactHalvingRunRow : OpenClaim := { program := "ytejjimfoihhcoabdoor", sum := "6f4cf22d4bb09d3d696e413b534e295a8ee6843fd3d48a09a047b9a11fd742b0", func := "loop.example/shatteredsets/laws.FnExactHalvingRun", spec := "fnExactHalvingRun", unfollowed := true, recurses := true, named := ["loop.example/shatteredsets/impl.setsWith"], apart := false, laid := [("loop.example/shatteredsets/impl.setsWith", laid_loop_example_shatteredsets_impl_setsWith)] }
def FnExactHalvingRunSaid : Prop := fnExactHalvingRunRow.holds Tryd.pinned (OpenSpec.ofChange fnExactHalvingRunSpec)

/-- ITS FALSE NEIGHBOUR: 'it returns false'. Refute it at one input. -/
def fnExactHalvingRunWrong : ChangeSpec := { name := "fnExactHalvingRun", vars := ["loop.example/shatteredsets/impl.setsWith"], fn := fun _ => fun
  | [d1, d2, g1] => { results := [.lit (.bool false)], args := [d1, d2], vars := [g1] }
  | _ => none }
def FnExactHalvingRunWrongFalsely : Prop := fnExactHalvingRunRow.holds Tryd.pinned (OpenSpec.ofChange fnExactHalvingRunWrong)

/-- 'laws.FnExactLittlestoneOf': WHATEVER THE INPUT: true; the input reads as it did. -/
def fnExactLittlestoneOfSpec : ChangeSpec := { name := "fnExactLittlestoneOf", vars := ["loop.example/shatteredsets/impl.setsWith"], fn := fun _ => fun
  | [d, g1] => { results := [.lit (.bool true)], args := [d], vars := [g1] }
  | _ => none }
def fnExactLittlestoneOfRow : OpenClaim := { program := "ytejjimfoihhcoabdoor", sum := "6f4cf22d4bb09d3d696e413b534e295a8ee6843fd3d48a09a047b9a11fd742b0", func := "loop.example/shatteredsets/laws.FnExactLittlestoneOf", spec := "fnExactLittlestoneOf", unfollowed := true, recurses := true, named := ["loop.example/shatteredsets/impl.setsWith"], apart := false, laid := [("loop.example/shatteredsets/impl.setsWith", laid_loop_example_shatteredsets_impl_setsWith)] }
def FnExactLittlestoneOfSaid : Prop := fnExactLittlestoneOfRow.holds Tryd.pinned (OpenSpec.ofChange fnExactLittlestoneOfSpec)

/-- ITS FALSE NEIGHBOUR: 'it returns false'. Refute it at one input. -/
def fnExactLittlestoneOfWrong : ChangeSpec := { name := "fnExactLittlestoneOf", vars := ["loop.example/shatteredsets/impl.setsWith"], fn := fun _ => fun
  | [d, g1] => { results := [.lit (.bool false)], args := [d], vars := [g1] }
  | _ => none }
def FnExactLittlestoneOfWrongFalsely : Prop := fnExactLittlestoneOfRow.holds Tryd.pinned (OpenSpec.ofChange fnExactLittlestoneOfWrong)

/-- 'laws.FnExactOptimalRun': WHATEVER THE INPUT: true; the input reads as it did. -/
def fnExactOptimalRunSpec : ChangeSpec := { name := "fnExactOptimalRun", vars := ["loop.example/shatteredsets/impl.setsWith"], fn := fun _ => fun
  | [d1, d2, g1] => { results := [.lit (.bool true)], args := [d1, d2], vars := [g1] }
  | _ => none }
def fnExactOptimalRunRow : OpenClaim := { program := "ytejjimfoihhcoabdoor", sum := "6f4cf22d4bb09d3d696e413b534e295a8ee6843fd3d48a09a047b9a11fd742b0", func := "loop.example/shatteredsets/laws.FnExactOptimalRun", spec := "fnExactOptimalRun", unfollowed := true, recurses := true, named := ["loop.example/shatteredsets/impl.setsWith"], apart := false, laid := [("loop.example/shatteredsets/impl.setsWith", laid_loop_example_shatteredsets_impl_setsWith)] }
def FnExactOptimalRunSaid : Prop := fnExactOptimalRunRow.holds Tryd.pinned (OpenSpec.ofChange fnExactOptimalRunSpec)

/-- ITS FALSE NEIGHBOUR: 'it returns false'. Refute it at one input. -/
def fnExactOptimalRunWrong : ChangeSpec := { name := "fnExactOptimalRun", vars := ["loop.example/shatteredsets/impl.setsWith"], fn := fun _ => fun
  | [d1, d2, g1] => { results := [.lit (.bool false)], args := [d1, d2], vars := [g1] }
  | _ => none }
def FnExactOptimalRunWrongFalsely : Prop := fnExactOptimalRunRow.holds Tryd.pinned (OpenSpec.ofChange fnExactOptimalRunWrong)

/-- 'laws.FnExactWorstRun': WHATEVER THE INPUT: true; the input reads as it did. -/
def fnExactWorstRunSpec : ChangeSpec := { name := "fnExactWorstRun", vars := ["loop.example/shatteredsets/impl.setsWith"], fn := fun _ => fun
  | [d, g1] => { results := [.lit (.bool true)], args := [d], vars := [g1] }
  | _ => none }
def fnExactWorstRunRow : OpenClaim := { program := "ytejjimfoihhcoabdoor", sum := "6f4cf22d4bb09d3d696e413b534e295a8ee6843fd3d48a09a047b9a11fd742b0", func := "loop.example/shatteredsets/laws.FnExactWorstRun", spec := "fnExactWorstRun", unfollowed := true, recurses := true, named := ["loop.example/shatteredsets/impl.setsWith"], apart := false, laid := [("loop.example/shatteredsets/impl.setsWith", laid_loop_example_shatteredsets_impl_setsWith)] }
def FnExactWorstRunSaid : Prop := fnExactWorstRunRow.holds Tryd.pinned (OpenSpec.ofChange fnExactWorstRunSpec)

/-- ITS FALSE NEIGHBOUR: 'it returns false'. Refute it at one input. -/
def fnExactWorstRunWrong : ChangeSpec := { name := "fnExactWorstRun", vars := ["loop.example/shatteredsets/impl.setsWith"], fn := fun _ => fun
  | [d, g1] => { results := [.lit (.bool false)], args := [d], vars := [g1] }
  | _ => none }
def FnExactWorstRunWrongFalsely : Prop := fnExactWorstRunRow.holds Tryd.pinned (OpenSpec.ofChange fnExactWorstRunWrong)

/-- 'laws.FnExactMembershipDepth': WHATEVER THE INPUT: true; the input reads as it did. -/
def fnExactMembershipDepthSpec : ChangeSpec := { name := "fnExactMembershipDepth", vars := ["loop.example/shatteredsets/impl.setsWith"], fn := fun _ => fun
  | [d, g1] => { results := [.lit (.bool true)], args := [d], vars := [g1] }
  | _ => none }
def fnExactMembershipDepthRow : OpenClaim := { program := "ytejjimfoihhcoabdoor", sum := "6f4cf22d4bb09d3d696e413b534e295a8ee6843fd3d48a09a047b9a11fd742b0", func := "loop.example/shatteredsets/laws.FnExactMembershipDepth", spec := "fnExactMembershipDepth", unfollowed := true, recurses := true, named := ["loop.example/shatteredsets/impl.setsWith"], apart := false, laid := [("loop.example/shatteredsets/impl.setsWith", laid_loop_example_shatteredsets_impl_setsWith)] }
def FnExactMembershipDepthSaid : Prop := fnExactMembershipDepthRow.holds Tryd.pinned (OpenSpec.ofChange fnExactMembershipDepthSpec)

/-- ITS FALSE NEIGHBOUR: 'it returns false'. Refute it at one input. -/
def fnExactMembershipDepthWrong : ChangeSpec := { name := "fnExactMembershipDepth", vars := ["loop.example/shatteredsets/impl.setsWith"], fn := fun _ => fun
  | [d, g1] => { results := [.lit (.bool false)], args := [d], vars := [g1] }
  | _ => none }
def FnExactMembershipDepthWrongFalsely : Prop := fnExactMembershipDepthRow.holds Tryd.pinned (OpenSpec.ofChange fnExactMembershipDepthWrong)

/-- 'laws.FnExactFirstQuestion': WHATEVER THE INPUT: true; the input reads as it did. -/
def fnExactFirstQuestionSpec : ChangeSpec := { name := "fnExactFirstQuestion", vars := ["loop.example/shatteredsets/impl.setsWith"], fn := fun _ => fun
  | [d, g1] => { results := [.lit (.bool true)], args := [d], vars := [g1] }
  | _ => none }
def fnExactFirstQuestionRow : OpenClaim := { program := "ytejjimfoihhcoabdoor", sum := "6f4cf22d4bb09d3d696e413b534e295a8ee6843fd3d48a09a047b9a11fd742b0", func := "loop.example/shatteredsets/laws.FnExactFirstQuestion", spec := "fnExactFirstQuestion", unfollowed := true, recurses := true, named := ["loop.example/shatteredsets/impl.setsWith"], apart := false, laid := [("loop.example/shatteredsets/impl.setsWith", laid_loop_example_shatteredsets_impl_setsWith)] }
def FnExactFirstQuestionSaid : Prop := fnExactFirstQuestionRow.holds Tryd.pinned (OpenSpec.ofChange fnExactFirstQuestionSpec)

/-- ITS FALSE NEIGHBOUR: 'it returns false'. Refute it at one input. -/
def fnExactFirstQuestionWrong : ChangeSpec := { name := "fnExactFirstQuestion", vars := ["loop.example/shatteredsets/impl.setsWith"], fn := fun _ => fun
  | [d, g1] => { results := [.lit (.bool false)], args := [d], vars := [g1] }
  | _ => none }
def FnExactFirstQuestionWrongFalsely : Prop := fnExactFirstQuestionRow.holds Tryd.pinned (OpenSpec.ofChange fnExactFirstQuestionWrong)

/-- 'laws.FnExactDisagreementOf': WHATEVER THE INPUT: true; the input reads as it did. -/
def fnExactDisagreementOfSpec : ChangeSpec := { name := "fnExactDisagreementOf", vars := ["loop.example/shatteredsets/impl.setsWith"], fn := fun _ => fun
  | [d, g1] => { results := [.lit (.bool true)], args := [d], vars := [g1] }
  | _ => none }
def fnExactDisagreementOfRow : OpenClaim := { program := "ytejjimfoihhcoabdoor", sum := "6f4cf22d4bb09d3d696e413b534e295a8ee6843fd3d48a09a047b9a11fd742b0", func := "loop.example/shatteredsets/laws.FnExactDisagreementOf", spec := "fnExactDisagreementOf", named := ["loop.example/shatteredsets/impl.setsWith"], apart := false, laid := [("loop.example/shatteredsets/impl.setsWith", laid_loop_example_shatteredsets_impl_setsWith)] }
def FnExactDisagreementOfSaid : Prop := fnExactDisagreementOfRow.holds Tryd.pinned (OpenSpec.ofChange fnExactDisagreementOfSpec)

/-- ITS FALSE NEIGHBOUR: 'it returns false'. Refute it at one input. -/
def fnExactDisagreementOfWrong : ChangeSpec := { name := "fnExactDisagreementOf", vars := ["loop.example/shatteredsets/impl.setsWith"], fn := fun _ => fun
  | [d, g1] => { results := [.lit (.bool false)], args := [d], vars := [g1] }
  | _ => none }
def FnExactDisagreementOfWrongFalsely : Prop := fnExactDisagreementOfRow.holds Tryd.pinned (OpenSpec.ofChange fnExactDisagreementOfWrong)

/- THE SECOND FORM. 'bulk': how many values and letters a reading holds, each counted each time it is reached (what is shared counts as often as it is met; a slice's spare places count too). A statement '..UptoSaid' is the law's where the arguments, and the package variables that the reading takes, are together of bulk at most 1048576: NARROWER than '..Said'. Prove '..Said' where nothing that the law and all that it calls make is longer than what came in: it says more and counts as full. Else prove '..UptoSaid'. A law counts once. -/
mutual
def uptoBulk {H : Type} : DataW H → Nat
  | .lit (.string bytes) => bytes.length + 1
  | .lit _ => 1
  | .nil => 1
  | .ptr d => uptoBulk d + 1
  | .slice elems spare => uptoBulkAll elems + uptoBulkAll spare + 1
  | .agg parts => uptoBulkAll parts + 1
  | .iface _ d => uptoBulk d + 1
  | .map entries => uptoBulkEntries entries + 1
  | .held _ => 1
def uptoBulkAll {H : Type} : List (DataW H) → Nat
  | [] => 0
  | d :: r => uptoBulk d + uptoBulkAll r
def uptoBulkEntries {H : Type} : List (Lit × DataW H) → Nat
  | [] => 0
  | x :: r => uptoBulkEntry x + uptoBulkEntries r
def uptoBulkEntry {H : Type} : Lit × DataW H → Nat
  | (.string bytes, d) => bytes.length + uptoBulk d + 1
  | (_, d) => uptoBulk d + 1
 end
def uptoSmall : (H : Type) → List (DataW H) → Bool := fun _ ds => decide (uptoBulkAll ds ≤ 1048576)
def OpenSpec.upto (s : _root_.Go.ChangeSpec) : _root_.Go.OpenSpec := { _root_.Go.OpenSpec.ofChange s with cond := some uptoSmall }

/-- 'laws.FnExactConsistentOf', WHERE WHAT IT READS IS OF BULK AT MOST 1048576: true; the input reads as it did. -/
def fnExactConsistentOfUptoRow : OpenClaim := { program := "ytejjimfoihhcoabdoor", sum := "6f4cf22d4bb09d3d696e413b534e295a8ee6843fd3d48a09a047b9a11fd742b0", func := "loop.example/shatteredsets/laws.FnExactConsistentOf", spec := "fnExactConsistentOf", unfollowed := true, recurses := true, named := ["loop.example/shatteredsets/impl.setsWith"], apart := false, laid := [("loop.example/shatteredsets/impl.setsWith", laid_loop_example_shatteredsets_impl_setsWith)], narrowed := true }
def FnExactConsistentOfUptoSaid : Prop := fnExactConsistentOfUptoRow.holds Tryd.pinned (OpenSpec.upto fnExactConsistentOfSpec)

/-- 'laws.FnExactHalvingRun', WHERE WHAT IT READS IS OF BULK AT MOST 1048576: true; the input reads as it did. -/
def fnExactHalvingRunUptoRow : OpenClaim := { program := "ytejjimfoihhcoabdoor", sum := "6f4cf22d4bb09d3d696e413b534e295a8ee6843fd3d48a09a047b9a11fd742b0", func := "loop.example/shatteredsets/laws.FnExactHalvingRun", spec := "fnExactHalvingRun", unfollowed := true, recurses := true, named := ["loop.example/shatteredsets/impl.setsWith"], apart := false, laid := [("loop.example/shatteredsets/impl.setsWith", laid_loop_example_shatteredsets_impl_setsWith)], narrowed := true }
def FnExactHalvingRunUptoSaid : Prop := fnExactHalvingRunUptoRow.holds Tryd.pinned (OpenSpec.upto fnExactHalvingRunSpec)

/-- 'laws.FnExactLittlestoneOf', WHERE WHAT IT READS IS OF BULK AT MOST 1048576: true; the input reads as it did. -/
def fnExactLittlestoneOfUptoRow : OpenClaim := { program := "ytejjimfoihhcoabdoor", sum := "6f4cf22d4bb09d3d696e413b534e295a8ee6843fd3d48a09a047b9a11fd742b0", func := "loop.example/shatteredsets/laws.FnExactLittlestoneOf", spec := "fnExactLittlestoneOf", unfollowed := true, recurses := true, named := ["loop.example/shatteredsets/impl.setsWith"], apart := false, laid := [("loop.example/shatteredsets/impl.setsWith", laid_loop_example_shatteredsets_impl_setsWith)], narrowed := true }
def FnExactLittlestoneOfUptoSaid : Prop := fnExactLittlestoneOfUptoRow.holds Tryd.pinned (OpenSpec.upto fnExactLittlestoneOfSpec)

/-- 'laws.FnExactOptimalRun', WHERE WHAT IT READS IS OF BULK AT MOST 1048576: true; the input reads as it did. -/
def fnExactOptimalRunUptoRow : OpenClaim := { program := "ytejjimfoihhcoabdoor", sum := "6f4cf22d4bb09d3d696e413b534e295a8ee6843fd3d48a09a047b9a11fd742b0", func := "loop.example/shatteredsets/laws.FnExactOptimalRun", spec := "fnExactOptimalRun", unfollowed := true, recurses := true, named := ["loop.example/shatteredsets/impl.setsWith"], apart := false, laid := [("loop.example/shatteredsets/impl.setsWith", laid_loop_example_shatteredsets_impl_setsWith)], narrowed := true }
def FnExactOptimalRunUptoSaid : Prop := fnExactOptimalRunUptoRow.holds Tryd.pinned (OpenSpec.upto fnExactOptimalRunSpec)

/-- 'laws.FnExactWorstRun', WHERE WHAT IT READS IS OF BULK AT MOST 1048576: true; the input reads as it did. -/
def fnExactWorstRunUptoRow : OpenClaim := { program := "ytejjimfoihhcoabdoor", sum := "6f4cf22d4bb09d3d696e413b534e295a8ee6843fd3d48a09a047b9a11fd742b0", func := "loop.example/shatteredsets/laws.FnExactWorstRun", spec := "fnExactWorstRun", unfollowed := true, recurses := true, named := ["loop.example/shatteredsets/impl.setsWith"], apart := false, laid := [("loop.example/shatteredsets/impl.setsWith", laid_loop_example_shatteredsets_impl_setsWith)], narrowed := true }
def FnExactWorstRunUptoSaid : Prop := fnExactWorstRunUptoRow.holds Tryd.pinned (OpenSpec.upto fnExactWorstRunSpec)

/-- 'laws.FnExactMembershipDepth', WHERE WHAT IT READS IS OF BULK AT MOST 1048576: true; the input reads as it did. -/
def fnExactMembershipDepthUptoRow : OpenClaim := { program := "ytejjimfoihhcoabdoor", sum := "6f4cf22d4bb09d3d696e413b534e295a8ee6843fd3d48a09a047b9a11fd742b0", func := "loop.example/shatteredsets/laws.FnExactMembershipDepth", spec := "fnExactMembershipDepth", unfollowed := true, recurses := true, named := ["loop.example/shatteredsets/impl.setsWith"], apart := false, laid := [("loop.example/shatteredsets/impl.setsWith", laid_loop_example_shatteredsets_impl_setsWith)], narrowed := true }
def FnExactMembershipDepthUptoSaid : Prop := fnExactMembershipDepthUptoRow.holds Tryd.pinned (OpenSpec.upto fnExactMembershipDepthSpec)

/-- 'laws.FnExactFirstQuestion', WHERE WHAT IT READS IS OF BULK AT MOST 1048576: true; the input reads as it did. -/
def fnExactFirstQuestionUptoRow : OpenClaim := { program := "ytejjimfoihhcoabdoor", sum := "6f4cf22d4bb09d3d696e413b534e295a8ee6843fd3d48a09a047b9a11fd742b0", func := "loop.example/shatteredsets/laws.FnExactFirstQuestion", spec := "fnExactFirstQuestion", unfollowed := true, recurses := true, named := ["loop.example/shatteredsets/impl.setsWith"], apart := false, laid := [("loop.example/shatteredsets/impl.setsWith", laid_loop_example_shatteredsets_impl_setsWith)], narrowed := true }
def FnExactFirstQuestionUptoSaid : Prop := fnExactFirstQuestionUptoRow.holds Tryd.pinned (OpenSpec.upto fnExactFirstQuestionSpec)

/-- 'laws.FnExactDisagreementOf', WHERE WHAT IT READS IS OF BULK AT MOST 1048576: true; the input reads as it did. -/
def fnExactDisagreementOfUptoRow : OpenClaim := { program := "ytejjimfoihhcoabdoor", sum := "6f4cf22d4bb09d3d696e413b534e295a8ee6843fd3d48a09a047b9a11fd742b0", func := "loop.example/shatteredsets/laws.FnExactDisagreementOf", spec := "fnExactDisagreementOf", named := ["loop.example/shatteredsets/impl.setsWith"], apart := false, laid := [("loop.example/shatteredsets/impl.setsWith", laid_loop_example_shatteredsets_impl_setsWith)], narrowed := true }
def FnExactDisagreementOfUptoSaid : Prop := fnExactDisagreementOfUptoRow.holds Tryd.pinned (OpenSpec.upto fnExactDisagreementOfSpec)

end Rows
end Go.Proofs.YtejjimfoihhcoabDoor
