/-
  No cell of these rows narrows 'for every input' (looked for: loops, veiled, ifaces, maps, wideKeys, modest, calm, conditions, laid).
  DERIVED. THE GIVEN ROWS OF THIS SEAT. 9 by the template 'for every input the law returns true; each argument reads behind the call as it read before'; 0 by the template 'total and deterministic' (their statements: YtilhbmohlcocjaaTotals.lean).
  GIVEN WITH THE SEED: the statements are not yours to turn. If you find one false, say at which input.
  Laid BY PROGRAM, IN A SANDBOX (cutbox-rows.mjs): the forced cells as the released guide's own fill.sh prints them over the translation b4d633abd703360a… (all of the seat's roots in one cut). By AI agents, Wed Nov 11 2026. No macro, syntax, notation, axiom, sorry.
-/
import Derived.Test.YtilhbmohlcocjaaChecked
import GoSem.Claim
import GoSem.ClaimJoined
import GoSem.ClaimMapViews
import Derived.JoinedTies
import Derived.KernelRfl
namespace Go.Proofs.Ytilhbmohlcocjaa
/- THE CELL 'sum', in the pinned program and in every row, IS THE sha256 OF THE DUMP (.gsa) THAT YtilhbmohlcocjaaProg.lean LOADS. Nothing in Lean hashes anything: it is a label: what it is worth is what the hold of that sum in a sandbox is worth. -/
noncomputable def Try.pinned : Pinned := { name := "ytilhbmohlcocjaa", sum := "b4d633abd703360a73454ea8bb6f39a45efd47a6f7d337125031c7639aeb8b38", checked := Try.checked }
namespace Rows
def none {H : Type} : Left H := { results := [], args := [] }

/-- 'laws.FnExactValidClass': WHATEVER THE INPUT: true; the input reads as it did. -/
def fnExactValidClassSpec : ChangeSpec := { name := "fnExactValidClass", fn := fun _ => fun
  | [d] => { results := [.lit (.bool true)], args := [d] }
  | _ => none }
def fnExactValidClassRow : OpenClaim := { program := "ytilhbmohlcocjaa", sum := "b4d633abd703360a73454ea8bb6f39a45efd47a6f7d337125031c7639aeb8b38", func := "loop.example/shatteredsets/laws.FnExactValidClass", spec := "fnExactValidClass", apart := false }
def FnExactValidClassSaid : Prop := fnExactValidClassRow.holds Try.pinned (OpenSpec.ofChange fnExactValidClassSpec)

/-- ITS FALSE NEIGHBOUR: 'it returns false'. Refute it at one input. -/
def fnExactValidClassWrong : ChangeSpec := { name := "fnExactValidClass", fn := fun _ => fun
  | [d] => { results := [.lit (.bool false)], args := [d] }
  | _ => none }
def FnExactValidClassWrongFalsely : Prop := fnExactValidClassRow.holds Try.pinned (OpenSpec.ofChange fnExactValidClassWrong)

/-- 'laws.FnExactTraceOf': WHATEVER THE INPUT: true; the input reads as it did. -/
def fnExactTraceOfSpec : ChangeSpec := { name := "fnExactTraceOf", fn := fun _ => fun
  | [d1, d2] => { results := [.lit (.bool true)], args := [d1, d2] }
  | _ => none }
def fnExactTraceOfRow : OpenClaim := { program := "ytilhbmohlcocjaa", sum := "b4d633abd703360a73454ea8bb6f39a45efd47a6f7d337125031c7639aeb8b38", func := "loop.example/shatteredsets/laws.FnExactTraceOf", spec := "fnExactTraceOf", apart := false }
def FnExactTraceOfSaid : Prop := fnExactTraceOfRow.holds Try.pinned (OpenSpec.ofChange fnExactTraceOfSpec)

/-- ITS FALSE NEIGHBOUR: 'it returns false'. Refute it at one input. -/
def fnExactTraceOfWrong : ChangeSpec := { name := "fnExactTraceOf", fn := fun _ => fun
  | [d1, d2] => { results := [.lit (.bool false)], args := [d1, d2] }
  | _ => none }
def FnExactTraceOfWrongFalsely : Prop := fnExactTraceOfRow.holds Try.pinned (OpenSpec.ofChange fnExactTraceOfWrong)

/-- 'laws.FnExactIsShattered': WHATEVER THE INPUT: true; the input reads as it did. -/
def fnExactIsShatteredSpec : ChangeSpec := { name := "fnExactIsShattered", fn := fun _ => fun
  | [d1, d2] => { results := [.lit (.bool true)], args := [d1, d2] }
  | _ => none }
def fnExactIsShatteredRow : OpenClaim := { program := "ytilhbmohlcocjaa", sum := "b4d633abd703360a73454ea8bb6f39a45efd47a6f7d337125031c7639aeb8b38", func := "loop.example/shatteredsets/laws.FnExactIsShattered", spec := "fnExactIsShattered", apart := false }
def FnExactIsShatteredSaid : Prop := fnExactIsShatteredRow.holds Try.pinned (OpenSpec.ofChange fnExactIsShatteredSpec)

/-- ITS FALSE NEIGHBOUR: 'it returns false'. Refute it at one input. -/
def fnExactIsShatteredWrong : ChangeSpec := { name := "fnExactIsShattered", fn := fun _ => fun
  | [d1, d2] => { results := [.lit (.bool false)], args := [d1, d2] }
  | _ => none }
def FnExactIsShatteredWrongFalsely : Prop := fnExactIsShatteredRow.holds Try.pinned (OpenSpec.ofChange fnExactIsShatteredWrong)

/-- 'laws.FnExactShatteredSets': WHATEVER THE INPUT: true; the input reads as it did. -/
def fnExactShatteredSetsSpec : ChangeSpec := { name := "fnExactShatteredSets", fn := fun _ => fun
  | [d] => { results := [.lit (.bool true)], args := [d] }
  | _ => none }
def fnExactShatteredSetsRow : OpenClaim := { program := "ytilhbmohlcocjaa", sum := "b4d633abd703360a73454ea8bb6f39a45efd47a6f7d337125031c7639aeb8b38", func := "loop.example/shatteredsets/laws.FnExactShatteredSets", spec := "fnExactShatteredSets", unfollowed := true, recurses := true, apart := false }
def FnExactShatteredSetsSaid : Prop := fnExactShatteredSetsRow.holds Try.pinned (OpenSpec.ofChange fnExactShatteredSetsSpec)

/-- ITS FALSE NEIGHBOUR: 'it returns false'. Refute it at one input. -/
def fnExactShatteredSetsWrong : ChangeSpec := { name := "fnExactShatteredSets", fn := fun _ => fun
  | [d] => { results := [.lit (.bool false)], args := [d] }
  | _ => none }
def FnExactShatteredSetsWrongFalsely : Prop := fnExactShatteredSetsRow.holds Try.pinned (OpenSpec.ofChange fnExactShatteredSetsWrong)

/-- 'laws.FnExactVCDimension': WHATEVER THE INPUT: true; the input reads as it did. -/
def fnExactVCDimensionSpec : ChangeSpec := { name := "fnExactVCDimension", fn := fun _ => fun
  | [d] => { results := [.lit (.bool true)], args := [d] }
  | _ => none }
def fnExactVCDimensionRow : OpenClaim := { program := "ytilhbmohlcocjaa", sum := "b4d633abd703360a73454ea8bb6f39a45efd47a6f7d337125031c7639aeb8b38", func := "loop.example/shatteredsets/laws.FnExactVCDimension", spec := "fnExactVCDimension", unfollowed := true, recurses := true, apart := false }
def FnExactVCDimensionSaid : Prop := fnExactVCDimensionRow.holds Try.pinned (OpenSpec.ofChange fnExactVCDimensionSpec)

/-- ITS FALSE NEIGHBOUR: 'it returns false'. Refute it at one input. -/
def fnExactVCDimensionWrong : ChangeSpec := { name := "fnExactVCDimension", fn := fun _ => fun
  | [d] => { results := [.lit (.bool false)], args := [d] }
  | _ => none }
def FnExactVCDimensionWrongFalsely : Prop := fnExactVCDimensionRow.holds Try.pinned (OpenSpec.ofChange fnExactVCDimensionWrong)

/-- 'laws.FnExactIsStrong': WHATEVER THE INPUT: true; the input reads as it did. -/
def fnExactIsStrongSpec : ChangeSpec := { name := "fnExactIsStrong", fn := fun _ => fun
  | [d1, d2] => { results := [.lit (.bool true)], args := [d1, d2] }
  | _ => none }
def fnExactIsStrongRow : OpenClaim := { program := "ytilhbmohlcocjaa", sum := "b4d633abd703360a73454ea8bb6f39a45efd47a6f7d337125031c7639aeb8b38", func := "loop.example/shatteredsets/laws.FnExactIsStrong", spec := "fnExactIsStrong", apart := false }
def FnExactIsStrongSaid : Prop := fnExactIsStrongRow.holds Try.pinned (OpenSpec.ofChange fnExactIsStrongSpec)

/-- ITS FALSE NEIGHBOUR: 'it returns false'. Refute it at one input. -/
def fnExactIsStrongWrong : ChangeSpec := { name := "fnExactIsStrong", fn := fun _ => fun
  | [d1, d2] => { results := [.lit (.bool false)], args := [d1, d2] }
  | _ => none }
def FnExactIsStrongWrongFalsely : Prop := fnExactIsStrongRow.holds Try.pinned (OpenSpec.ofChange fnExactIsStrongWrong)

/-- 'laws.FnExactStrongSets': WHATEVER THE INPUT: true; the input reads as it did. -/
def fnExactStrongSetsSpec : ChangeSpec := { name := "fnExactStrongSets", fn := fun _ => fun
  | [d] => { results := [.lit (.bool true)], args := [d] }
  | _ => none }
def fnExactStrongSetsRow : OpenClaim := { program := "ytilhbmohlcocjaa", sum := "b4d633abd703360a73454ea8bb6f39a45efd47a6f7d337125031c7639aeb8b38", func := "loop.example/shatteredsets/laws.FnExactStrongSets", spec := "fnExactStrongSets", unfollowed := true, recurses := true, apart := false }
def FnExactStrongSetsSaid : Prop := fnExactStrongSetsRow.holds Try.pinned (OpenSpec.ofChange fnExactStrongSetsSpec)

/-- ITS FALSE NEIGHBOUR: 'it returns false'. Refute it at one input. -/
def fnExactStrongSetsWrong : ChangeSpec := { name := "fnExactStrongSets", fn := fun _ => fun
  | [d] => { results := [.lit (.bool false)], args := [d] }
  | _ => none }
def FnExactStrongSetsWrongFalsely : Prop := fnExactStrongSetsRow.holds Try.pinned (OpenSpec.ofChange fnExactStrongSetsWrong)

/-- 'laws.FnExactGrowthOf': WHATEVER THE INPUT: true; the input reads as it did. -/
def fnExactGrowthOfSpec : ChangeSpec := { name := "fnExactGrowthOf", fn := fun _ => fun
  | [d1, d2] => { results := [.lit (.bool true)], args := [d1, d2] }
  | _ => none }
def fnExactGrowthOfRow : OpenClaim := { program := "ytilhbmohlcocjaa", sum := "b4d633abd703360a73454ea8bb6f39a45efd47a6f7d337125031c7639aeb8b38", func := "loop.example/shatteredsets/laws.FnExactGrowthOf", spec := "fnExactGrowthOf", apart := false }
def FnExactGrowthOfSaid : Prop := fnExactGrowthOfRow.holds Try.pinned (OpenSpec.ofChange fnExactGrowthOfSpec)

/-- ITS FALSE NEIGHBOUR: 'it returns false'. Refute it at one input. -/
def fnExactGrowthOfWrong : ChangeSpec := { name := "fnExactGrowthOf", fn := fun _ => fun
  | [d1, d2] => { results := [.lit (.bool false)], args := [d1, d2] }
  | _ => none }
def FnExactGrowthOfWrongFalsely : Prop := fnExactGrowthOfRow.holds Try.pinned (OpenSpec.ofChange fnExactGrowthOfWrong)

/-- 'laws.FnExactSauerBound': WHATEVER THE INPUT: true; the input reads as it did. -/
def fnExactSauerBoundSpec : ChangeSpec := { name := "fnExactSauerBound", fn := fun _ => fun
  | [d1, d2] => { results := [.lit (.bool true)], args := [d1, d2] }
  | _ => none }
def fnExactSauerBoundRow : OpenClaim := { program := "ytilhbmohlcocjaa", sum := "b4d633abd703360a73454ea8bb6f39a45efd47a6f7d337125031c7639aeb8b38", func := "loop.example/shatteredsets/laws.FnExactSauerBound", spec := "fnExactSauerBound", apart := false }
def FnExactSauerBoundSaid : Prop := fnExactSauerBoundRow.holds Try.pinned (OpenSpec.ofChange fnExactSauerBoundSpec)

/-- ITS FALSE NEIGHBOUR: 'it returns false'. Refute it at one input. -/
def fnExactSauerBoundWrong : ChangeSpec := { name := "fnExactSauerBound", fn := fun _ => fun
  | [d1, d2] => { results := [.lit (.bool false)], args := [d1, d2] }
  | _ => none }
def FnExactSauerBoundWrongFalsely : Prop := fnExactSauerBoundRow.holds Try.pinned (OpenSpec.ofChange fnExactSauerBoundWrong)

/- THE SECOND FORM. 'bulk': how many values and letters a reading holds, each counted each time it is reached (what is shared counts as often as it is met; a slice's spare places count too). A statement '..UptoSaid' is the law's where the arguments, and the package variables that the reading takes, are together of bulk at most 1048576: NARROWER than '..Said'. Prove '..Said' where nothing that the law and all that it calls make is longer than what came in: it says more and counts as full. Else prove '..UptoSaid'. A law counts once. -/
mutual
def uptoBulk {H : Type} : DataW H → Nat
  | .lit (.string bytes) => bytes.length + 1
  | .lit _ => 1
  | .nil => 1
  | .ptr d => uptoBulk d + 1
  | .slice elems spare => uptoBulkAll elems + uptoBulkAll spare + 1
  | .agg parts => uptoBulkAll parts + 1
  | .iface _ d => uptoBulk d + 1
  | .map entries => uptoBulkEntries entries + 1
  | .held _ => 1
def uptoBulkAll {H : Type} : List (DataW H) → Nat
  | [] => 0
  | d :: r => uptoBulk d + uptoBulkAll r
def uptoBulkEntries {H : Type} : List (Lit × DataW H) → Nat
  | [] => 0
  | x :: r => uptoBulkEntry x + uptoBulkEntries r
def uptoBulkEntry {H : Type} : Lit × DataW H → Nat
  | (.string bytes, d) => bytes.length + uptoBulk d + 1
  | (_, d) => uptoBulk d + 1
 end
def uptoSmall : (H : Type) → List (DataW H) → Bool := fun _ ds => decide (uptoBulkAll ds ≤ 1048576)
def OpenSpec.upto (s : _root_.Go.ChangeSpec) : _root_.Go.OpenSpec := { _root_.Go.OpenSpec.ofChange s with cond := some uptoSmall }

/-- 'laws.FnExactValidClass', WHERE WHAT IT READS IS OF BULK AT MOST 1048576: true; the input reads as it did. -/
def fnExactValidClassUptoRow : OpenClaim := { program := "ytilhbmohlcocjaa", sum := "b4d633abd703360a73454ea8bb6f39a45efd47a6f7d337125031c7639aeb8b38", func := "loop.example/shatteredsets/laws.FnExactValidClass", spec := "fnExactValidClass", apart := false, narrowed := true }
def FnExactValidClassUptoSaid : Prop := fnExactValidClassUptoRow.holds Try.pinned (OpenSpec.upto fnExactValidClassSpec)

/-- 'laws.FnExactTraceOf', WHERE WHAT IT READS IS OF BULK AT MOST 1048576: true; the input reads as it did. -/
def fnExactTraceOfUptoRow : OpenClaim := { program := "ytilhbmohlcocjaa", sum := "b4d633abd703360a73454ea8bb6f39a45efd47a6f7d337125031c7639aeb8b38", func := "loop.example/shatteredsets/laws.FnExactTraceOf", spec := "fnExactTraceOf", apart := false, narrowed := true }
def FnExactTraceOfUptoSaid : Prop := fnExactTraceOfUptoRow.holds Try.pinned (OpenSpec.upto fnExactTraceOfSpec)

/-- 'laws.FnExactIsShattered', WHERE WHAT IT READS IS OF BULK AT MOST 1048576: true; the input reads as it did. -/
def fnExactIsShatteredUptoRow : OpenClaim := { program := "ytilhbmohlcocjaa", sum := "b4d633abd703360a73454ea8bb6f39a45efd47a6f7d337125031c7639aeb8b38", func := "loop.example/shatteredsets/laws.FnExactIsShattered", spec := "fnExactIsShattered", apart := false, narrowed := true }
def FnExactIsShatteredUptoSaid : Prop := fnExactIsShatteredUptoRow.holds Try.pinned (OpenSpec.upto fnExactIsShatteredSpec)

/-- 'laws.FnExactShatteredSets', WHERE WHAT IT READS IS OF BULK AT MOST 1048576: true; the input reads as it did. -/
def fnExactShatteredSetsUptoRow : OpenClaim := { program := "ytilhbmohlcocjaa", sum := "b4d633abd703360a73454ea8bb6f39a45efd47a6f7d337125031c7639aeb8b38", func := "loop.example/shatteredsets/laws.FnExactShatteredSets", spec := "fnExactShatteredSets", unfollowed := true, recurses := true, apart := false, narrowed := true }
def FnExactShatteredSetsUptoSaid : Prop := fnExactShatteredSetsUptoRow.holds Try.pinned (OpenSpec.upto fnExactShatteredSetsSpec)

/-- 'laws.FnExactVCDimension', WHERE WHAT IT READS IS OF BULK AT MOST 1048576: true; the input reads as it did. -/
def fnExactVCDimensionUptoRow : OpenClaim := { program := "ytilhbmohlcocjaa", sum := "b4d633abd703360a73454ea8bb6f39a45efd47a6f7d337125031c7639aeb8b38", func := "loop.example/shatteredsets/laws.FnExactVCDimension", spec := "fnExactVCDimension", unfollowed := true, recurses := true, apart := false, narrowed := true }
def FnExactVCDimensionUptoSaid : Prop := fnExactVCDimensionUptoRow.holds Try.pinned (OpenSpec.upto fnExactVCDimensionSpec)

/-- 'laws.FnExactIsStrong', WHERE WHAT IT READS IS OF BULK AT MOST 1048576: true; the input reads as it did. -/
def fnExactIsStrongUptoRow : OpenClaim := { program := "ytilhbmohlcocjaa", sum := "b4d633abd703360a73454ea8bb6f39a45efd47a6f7d337125031c7639aeb8b38", func := "loop.example/shatteredsets/laws.FnExactIsStrong", spec := "fnExactIsStrong", apart := false, narrowed := true }
def FnExactIsStrongUptoSaid : Prop := fnExactIsStrongUptoRow.holds Try.pinned (OpenSpec.upto fnExactIsStrongSpec)

/-- 'laws.FnExactStrongSets', WHERE WHAT IT READS IS OF BULK AT MOST 1048576: true; the input reads as it did. -/
def fnExactStrongSetsUptoRow : OpenClaim := { program := "ytilhbmohlcocjaa", sum := "b4d633abd703360a73454ea8bb6f39a45efd47a6f7d337125031c7639aeb8b38", func := "loop.example/shatteredsets/laws.FnExactStrongSets", spec := "fnExactStrongSets", unfollowed := true, recurses := true, apart := false, narrowed := true }
def FnExactStrongSetsUptoSaid : Prop := fnExactStrongSetsUptoRow.holds Try.pinned (OpenSpec.upto fnExactStrongSetsSpec)

/-- 'laws.FnExactGrowthOf', WHERE WHAT IT READS IS OF BULK AT MOST 1048576: true; the input reads as it did. -/
def fnExactGrowthOfUptoRow : OpenClaim := { program := "ytilhbmohlcocjaa", sum := "b4d633abd703360a73454ea8bb6f39a45efd47a6f7d337125031c7639aeb8b38", func := "loop.example/shatteredsets/laws.FnExactGrowthOf", spec := "fnExactGrowthOf", apart := false, narrowed := true }
def FnExactGrowthOfUptoSaid : Prop := fnExactGrowthOfUptoRow.holds Try.pinned (OpenSpec.upto fnExactGrowthOfSpec)

/-- 'laws.FnExactSauerBound', WHERE WHAT IT READS IS OF BULK AT MOST 1048576: true; the input reads as it did. -/
def fnExactSauerBoundUptoRow : OpenClaim := { program := "ytilhbmohlcocjaa", sum := "b4d633abd703360a73454ea8bb6f39a45efd47a6f7d337125031c7639aeb8b38", func := "loop.example/shatteredsets/laws.FnExactSauerBound", spec := "fnExactSauerBound", apart := false, narrowed := true }
def FnExactSauerBoundUptoSaid : Prop := fnExactSauerBoundUptoRow.holds Try.pinned (OpenSpec.upto fnExactSauerBoundSpec)

end Rows
end Go.Proofs.Ytilhbmohlcocjaa
