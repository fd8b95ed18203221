/-
  No cell of these rows narrows 'for every input' (looked for: loops, veiled, ifaces, maps, wideKeys, modest, calm, conditions, laid).
  DERIVED. THE GIVEN ROWS OF THIS SEAT. 8 by the template 'for every input the law returns true; each argument reads behind the call as it read before'; 0 by the template 'total and deterministic' (their statements: YtejjimfoihhcoaaTotals.lean).
  GIVEN WITH THE SEED: the statements are not yours to turn. If you find one false, say at which input.
  Laid BY PROGRAM, IN A SANDBOX (cutbox-rows.mjs): the forced cells as the released guide's own fill.sh prints them over the translation 95689167580fdd62… (all of the seat's roots in one cut). By AI agents, Wed Nov 11 2026. No macro, syntax, notation, axiom, sorry.
-/
import Derived.Test.YtejjimfoihhcoaaChecked
import GoSem.Claim
import GoSem.ClaimJoined
import GoSem.ClaimMapViews
import Derived.JoinedTies
import Derived.KernelRfl
namespace Go.Proofs.Ytejjimfoihhcoaa
/- THE CELL 'sum', in the pinned program and in every row, IS THE sha256 OF THE DUMP (.gsa) THAT YtejjimfoihhcoaaProg.lean LOADS. Nothing in Lean hashes anything: it is a label: what it is worth is what the hold of that sum in a sandbox is worth. -/
noncomputable def Try.pinned : Pinned := { name := "ytejjimfoihhcoaa", sum := "95689167580fdd6293205ec0ebec047013489e2bc06050b2edf9be31765019b8", checked := Try.checked }
namespace Rows
def none {H : Type} : Left H := { results := [], args := [] }

/-- 'laws.FnExactIsMaximum': WHATEVER THE INPUT: true; the input reads as it did. -/
def fnExactIsMaximumSpec : ChangeSpec := { name := "fnExactIsMaximum", fn := fun _ => fun
  | [d] => { results := [.lit (.bool true)], args := [d] }
  | _ => none }
def fnExactIsMaximumRow : OpenClaim := { program := "ytejjimfoihhcoaa", sum := "95689167580fdd6293205ec0ebec047013489e2bc06050b2edf9be31765019b8", func := "loop.example/shatteredsets/laws.FnExactIsMaximum", spec := "fnExactIsMaximum", unfollowed := true, recurses := true, apart := false }
def FnExactIsMaximumSaid : Prop := fnExactIsMaximumRow.holds Try.pinned (OpenSpec.ofChange fnExactIsMaximumSpec)

/-- ITS FALSE NEIGHBOUR: 'it returns false'. Refute it at one input. -/
def fnExactIsMaximumWrong : ChangeSpec := { name := "fnExactIsMaximum", fn := fun _ => fun
  | [d] => { results := [.lit (.bool false)], args := [d] }
  | _ => none }
def FnExactIsMaximumWrongFalsely : Prop := fnExactIsMaximumRow.holds Try.pinned (OpenSpec.ofChange fnExactIsMaximumWrong)

/-- 'laws.FnExactComplementClass': WHATEVER THE INPUT: true; the input reads as it did. -/
def fnExactComplementClassSpec : ChangeSpec := { name := "fnExactComplementClass", fn := fun _ => fun
  | [d] => { results := [.lit (.bool true)], args := [d] }
  | _ => none }
def fnExactComplementClassRow : OpenClaim := { program := "ytejjimfoihhcoaa", sum := "95689167580fdd6293205ec0ebec047013489e2bc06050b2edf9be31765019b8", func := "loop.example/shatteredsets/laws.FnExactComplementClass", spec := "fnExactComplementClass", apart := false }
def FnExactComplementClassSaid : Prop := fnExactComplementClassRow.holds Try.pinned (OpenSpec.ofChange fnExactComplementClassSpec)

/-- ITS FALSE NEIGHBOUR: 'it returns false'. Refute it at one input. -/
def fnExactComplementClassWrong : ChangeSpec := { name := "fnExactComplementClass", fn := fun _ => fun
  | [d] => { results := [.lit (.bool false)], args := [d] }
  | _ => none }
def FnExactComplementClassWrongFalsely : Prop := fnExactComplementClassRow.holds Try.pinned (OpenSpec.ofChange fnExactComplementClassWrong)

/-- 'laws.FnExactShiftClass': WHATEVER THE INPUT: true; the input reads as it did. -/
def fnExactShiftClassSpec : ChangeSpec := { name := "fnExactShiftClass", fn := fun _ => fun
  | [d1, d2] => { results := [.lit (.bool true)], args := [d1, d2] }
  | _ => none }
def fnExactShiftClassRow : OpenClaim := { program := "ytejjimfoihhcoaa", sum := "95689167580fdd6293205ec0ebec047013489e2bc06050b2edf9be31765019b8", func := "loop.example/shatteredsets/laws.FnExactShiftClass", spec := "fnExactShiftClass", apart := false }
def FnExactShiftClassSaid : Prop := fnExactShiftClassRow.holds Try.pinned (OpenSpec.ofChange fnExactShiftClassSpec)

/-- ITS FALSE NEIGHBOUR: 'it returns false'. Refute it at one input. -/
def fnExactShiftClassWrong : ChangeSpec := { name := "fnExactShiftClass", fn := fun _ => fun
  | [d1, d2] => { results := [.lit (.bool false)], args := [d1, d2] }
  | _ => none }
def FnExactShiftClassWrongFalsely : Prop := fnExactShiftClassRow.holds Try.pinned (OpenSpec.ofChange fnExactShiftClassWrong)

/-- 'laws.FnExactSettleClass': WHATEVER THE INPUT: true; the input reads as it did. -/
def fnExactSettleClassSpec : ChangeSpec := { name := "fnExactSettleClass", fn := fun _ => fun
  | [d] => { results := [.lit (.bool true)], args := [d] }
  | _ => none }
def fnExactSettleClassRow : OpenClaim := { program := "ytejjimfoihhcoaa", sum := "95689167580fdd6293205ec0ebec047013489e2bc06050b2edf9be31765019b8", func := "loop.example/shatteredsets/laws.FnExactSettleClass", spec := "fnExactSettleClass", apart := false }
def FnExactSettleClassSaid : Prop := fnExactSettleClassRow.holds Try.pinned (OpenSpec.ofChange fnExactSettleClassSpec)

/-- ITS FALSE NEIGHBOUR: 'it returns false'. Refute it at one input. -/
def fnExactSettleClassWrong : ChangeSpec := { name := "fnExactSettleClass", fn := fun _ => fun
  | [d] => { results := [.lit (.bool false)], args := [d] }
  | _ => none }
def FnExactSettleClassWrongFalsely : Prop := fnExactSettleClassRow.holds Try.pinned (OpenSpec.ofChange fnExactSettleClassWrong)

/-- 'laws.FnExactRemovePoint': WHATEVER THE INPUT: true; the input reads as it did. -/
def fnExactRemovePointSpec : ChangeSpec := { name := "fnExactRemovePoint", fn := fun _ => fun
  | [d1, d2] => { results := [.lit (.bool true)], args := [d1, d2] }
  | _ => none }
def fnExactRemovePointRow : OpenClaim := { program := "ytejjimfoihhcoaa", sum := "95689167580fdd6293205ec0ebec047013489e2bc06050b2edf9be31765019b8", func := "loop.example/shatteredsets/laws.FnExactRemovePoint", spec := "fnExactRemovePoint", apart := false }
def FnExactRemovePointSaid : Prop := fnExactRemovePointRow.holds Try.pinned (OpenSpec.ofChange fnExactRemovePointSpec)

/-- ITS FALSE NEIGHBOUR: 'it returns false'. Refute it at one input. -/
def fnExactRemovePointWrong : ChangeSpec := { name := "fnExactRemovePoint", fn := fun _ => fun
  | [d1, d2] => { results := [.lit (.bool false)], args := [d1, d2] }
  | _ => none }
def FnExactRemovePointWrongFalsely : Prop := fnExactRemovePointRow.holds Try.pinned (OpenSpec.ofChange fnExactRemovePointWrong)

/-- 'laws.FnExactLinkOf': WHATEVER THE INPUT: true; the input reads as it did. -/
def fnExactLinkOfSpec : ChangeSpec := { name := "fnExactLinkOf", fn := fun _ => fun
  | [d1, d2] => { results := [.lit (.bool true)], args := [d1, d2] }
  | _ => none }
def fnExactLinkOfRow : OpenClaim := { program := "ytejjimfoihhcoaa", sum := "95689167580fdd6293205ec0ebec047013489e2bc06050b2edf9be31765019b8", func := "loop.example/shatteredsets/laws.FnExactLinkOf", spec := "fnExactLinkOf", apart := false }
def FnExactLinkOfSaid : Prop := fnExactLinkOfRow.holds Try.pinned (OpenSpec.ofChange fnExactLinkOfSpec)

/-- ITS FALSE NEIGHBOUR: 'it returns false'. Refute it at one input. -/
def fnExactLinkOfWrong : ChangeSpec := { name := "fnExactLinkOf", fn := fun _ => fun
  | [d1, d2] => { results := [.lit (.bool false)], args := [d1, d2] }
  | _ => none }
def FnExactLinkOfWrongFalsely : Prop := fnExactLinkOfRow.holds Try.pinned (OpenSpec.ofChange fnExactLinkOfWrong)

/-- 'laws.FnExactDualClass': WHATEVER THE INPUT: true; the input reads as it did. -/
def fnExactDualClassSpec : ChangeSpec := { name := "fnExactDualClass", fn := fun _ => fun
  | [d] => { results := [.lit (.bool true)], args := [d] }
  | _ => none }
def fnExactDualClassRow : OpenClaim := { program := "ytejjimfoihhcoaa", sum := "95689167580fdd6293205ec0ebec047013489e2bc06050b2edf9be31765019b8", func := "loop.example/shatteredsets/laws.FnExactDualClass", spec := "fnExactDualClass", apart := false }
def FnExactDualClassSaid : Prop := fnExactDualClassRow.holds Try.pinned (OpenSpec.ofChange fnExactDualClassSpec)

/-- ITS FALSE NEIGHBOUR: 'it returns false'. Refute it at one input. -/
def fnExactDualClassWrong : ChangeSpec := { name := "fnExactDualClass", fn := fun _ => fun
  | [d] => { results := [.lit (.bool false)], args := [d] }
  | _ => none }
def FnExactDualClassWrongFalsely : Prop := fnExactDualClassRow.holds Try.pinned (OpenSpec.ofChange fnExactDualClassWrong)

/-- 'laws.FnExactValidSample': WHATEVER THE INPUT: true; the input reads as it did. -/
def fnExactValidSampleSpec : ChangeSpec := { name := "fnExactValidSample", fn := fun _ => fun
  | [d1, d2] => { results := [.lit (.bool true)], args := [d1, d2] }
  | _ => none }
def fnExactValidSampleRow : OpenClaim := { program := "ytejjimfoihhcoaa", sum := "95689167580fdd6293205ec0ebec047013489e2bc06050b2edf9be31765019b8", func := "loop.example/shatteredsets/laws.FnExactValidSample", spec := "fnExactValidSample", unfollowed := true, recurses := true, apart := false }
def FnExactValidSampleSaid : Prop := fnExactValidSampleRow.holds Try.pinned (OpenSpec.ofChange fnExactValidSampleSpec)

/-- ITS FALSE NEIGHBOUR: 'it returns false'. Refute it at one input. -/
def fnExactValidSampleWrong : ChangeSpec := { name := "fnExactValidSample", fn := fun _ => fun
  | [d1, d2] => { results := [.lit (.bool false)], args := [d1, d2] }
  | _ => none }
def FnExactValidSampleWrongFalsely : Prop := fnExactValidSampleRow.holds Try.pinned (OpenSpec.ofChange fnExactValidSampleWrong)

/- THE SECOND FORM. 'bulk': how many values and letters a reading holds, each counted each time it is reached (what is shared counts as often as it is met; a slice's spare places count too). A statement '..UptoSaid' is the law's where the arguments, and the package variables that the reading takes, are together of bulk at most 1048576: NARROWER than '..Said'. Prove '..Said' where nothing that the law and all that it calls make is longer than what came in: it says more and counts as full. Else prove '..UptoSaid'. A law counts once. -/
mutual
def uptoBulk {H : Type} : DataW H → Nat
  | .lit (.string bytes) => bytes.length + 1
  | .lit _ => 1
  | .nil => 1
  | .ptr d => uptoBulk d + 1
  | .slice elems spare => uptoBulkAll elems + uptoBulkAll spare + 1
  | .agg parts => uptoBulkAll parts + 1
  | .iface _ d => uptoBulk d + 1
  | .map entries => uptoBulkEntries entries + 1
  | .held _ => 1
def uptoBulkAll {H : Type} : List (DataW H) → Nat
  | [] => 0
  | d :: r => uptoBulk d + uptoBulkAll r
def uptoBulkEntries {H : Type} : List (Lit × DataW H) → Nat
  | [] => 0
  | x :: r => uptoBulkEntry x + uptoBulkEntries r
def uptoBulkEntry {H : Type} : Lit × DataW H → Nat
  | (.string bytes, d) => bytes.length + uptoBulk d + 1
  | (_, d) => uptoBulk d + 1
 end
def uptoSmall : (H : Type) → List (DataW H) → Bool := fun _ ds => decide (uptoBulkAll ds ≤ 1048576)
def OpenSpec.upto (s : _root_.Go.ChangeSpec) : _root_.Go.OpenSpec := { _root_.Go.OpenSpec.ofChange s with cond := some uptoSmall }

/-- 'laws.FnExactIsMaximum', WHERE WHAT IT READS IS OF BULK AT MOST 1048576: true; the input reads as it did. -/
def fnExactIsMaximumUptoRow : OpenClaim := { program := "ytejjimfoihhcoaa", sum := "95689167580fdd6293205ec0ebec047013489e2bc06050b2edf9be31765019b8", func := "loop.example/shatteredsets/laws.FnExactIsMaximum", spec := "fnExactIsMaximum", unfollowed := true, recurses := true, apart := false, narrowed := true }
def FnExactIsMaximumUptoSaid : Prop := fnExactIsMaximumUptoRow.holds Try.pinned (OpenSpec.upto fnExactIsMaximumSpec)

/-- 'laws.FnExactComplementClass', WHERE WHAT IT READS IS OF BULK AT MOST 1048576: true; the input reads as it did. -/
def fnExactComplementClassUptoRow : OpenClaim := { program := "ytejjimfoihhcoaa", sum := "95689167580fdd6293205ec0ebec047013489e2bc06050b2edf9be31765019b8", func := "loop.example/shatteredsets/laws.FnExactComplementClass", spec := "fnExactComplementClass", apart := false, narrowed := true }
def FnExactComplementClassUptoSaid : Prop := fnExactComplementClassUptoRow.holds Try.pinned (OpenSpec.upto fnExactComplementClassSpec)

/-- 'laws.FnExactShiftClass', WHERE WHAT IT READS IS OF BULK AT MOST 1048576: true; the input reads as it did. -/
def fnExactShiftClassUptoRow : OpenClaim := { program := "ytejjimfoihhcoaa", sum := "95689167580fdd6293205ec0ebec047013489e2bc06050b2edf9be31765019b8", func := "loop.example/shatteredsets/laws.FnExactShiftClass", spec := "fnExactShiftClass", apart := false, narrowed := true }
def FnExactShiftClassUptoSaid : Prop := fnExactShiftClassUptoRow.holds Try.pinned (OpenSpec.upto fnExactShiftClassSpec)

/-- 'laws.FnExactSettleClass', WHERE WHAT IT READS IS OF BULK AT MOST 1048576: true; the input reads as it did. -/
def fnExactSettleClassUptoRow : OpenClaim := { program := "ytejjimfoihhcoaa", sum := "95689167580fdd6293205ec0ebec047013489e2bc06050b2edf9be31765019b8", func := "loop.example/shatteredsets/laws.FnExactSettleClass", spec := "fnExactSettleClass", apart := false, narrowed := true }
def FnExactSettleClassUptoSaid : Prop := fnExactSettleClassUptoRow.holds Try.pinned (OpenSpec.upto fnExactSettleClassSpec)

/-- 'laws.FnExactRemovePoint', WHERE WHAT IT READS IS OF BULK AT MOST 1048576: true; the input reads as it did. -/
def fnExactRemovePointUptoRow : OpenClaim := { program := "ytejjimfoihhcoaa", sum := "95689167580fdd6293205ec0ebec047013489e2bc06050b2edf9be31765019b8", func := "loop.example/shatteredsets/laws.FnExactRemovePoint", spec := "fnExactRemovePoint", apart := false, narrowed := true }
def FnExactRemovePointUptoSaid : Prop := fnExactRemovePointUptoRow.holds Try.pinned (OpenSpec.upto fnExactRemovePointSpec)

/-- 'laws.FnExactLinkOf', WHERE WHAT IT READS IS OF BULK AT MOST 1048576: true; the input reads as it did. -/
def fnExactLinkOfUptoRow : OpenClaim := { program := "ytejjimfoihhcoaa", sum := "95689167580fdd6293205ec0ebec047013489e2bc06050b2edf9be31765019b8", func := "loop.example/shatteredsets/laws.FnExactLinkOf", spec := "fnExactLinkOf", apart := false, narrowed := true }
def FnExactLinkOfUptoSaid : Prop := fnExactLinkOfUptoRow.holds Try.pinned (OpenSpec.upto fnExactLinkOfSpec)

/-- 'laws.FnExactDualClass', WHERE WHAT IT READS IS OF BULK AT MOST 1048576: true; the input reads as it did. -/
def fnExactDualClassUptoRow : OpenClaim := { program := "ytejjimfoihhcoaa", sum := "95689167580fdd6293205ec0ebec047013489e2bc06050b2edf9be31765019b8", func := "loop.example/shatteredsets/laws.FnExactDualClass", spec := "fnExactDualClass", apart := false, narrowed := true }
def FnExactDualClassUptoSaid : Prop := fnExactDualClassUptoRow.holds Try.pinned (OpenSpec.upto fnExactDualClassSpec)

/-- 'laws.FnExactValidSample', WHERE WHAT IT READS IS OF BULK AT MOST 1048576: true; the input reads as it did. -/
def fnExactValidSampleUptoRow : OpenClaim := { program := "ytejjimfoihhcoaa", sum := "95689167580fdd6293205ec0ebec047013489e2bc06050b2edf9be31765019b8", func := "loop.example/shatteredsets/laws.FnExactValidSample", spec := "fnExactValidSample", unfollowed := true, recurses := true, apart := false, narrowed := true }
def FnExactValidSampleUptoSaid : Prop := fnExactValidSampleUptoRow.holds Try.pinned (OpenSpec.upto fnExactValidSampleSpec)

end Rows
end Go.Proofs.Ytejjimfoihhcoaa
