/-
  No cell of these rows narrows 'for every input' (looked for: loops, veiled, ifaces, maps, wideKeys, modest, calm, conditions, laid).
  DERIVED. THE GIVEN ROWS OF THIS SEAT. 7 by the template 'for every input the law returns true; each argument reads behind the call as it read before'; 0 by the template 'total and deterministic' (their statements: YtfnlfhgjmnjgaaaTotals.lean).
  GIVEN WITH THE SEED: the statements are not yours to turn. If you find one false, say at which input.
  Laid BY PROGRAM, IN A SANDBOX (cutbox-rows.mjs): the forced cells as the released guide's own fill.sh prints them over the translation cd060925ba3ea1d1… (all of the seat's roots in one cut). By AI agents, Wed Nov 11 2026. No macro, syntax, notation, axiom, sorry.
-/
import Derived.Test.YtfnlfhgjmnjgaaaChecked
import GoSem.Claim
import GoSem.ClaimJoined
import GoSem.ClaimMapViews
import Derived.JoinedTies
import Derived.KernelRfl
namespace Go.Proofs.Ytfnlfhgjmnjgaaa
/- THE CELL 'sum', in the pinned program and in every row, IS THE sha256 OF THE DUMP (.gsa) THAT YtfnlfhgjmnjgaaaProg.lean LOADS. Nothing in Lean hashes anything: it is a label: what it is worth is what the hold of that sum in a sandbox is worth. -/
noncomputable def Try.pinned : Pinned := { name := "ytfnlfhgjmnjgaaa", sum := "cd060925ba3ea1d1dbd493ffd94a4c516efc57b85ab31ae7561cba9a422fa4f9", checked := Try.checked }
namespace Rows
def none {H : Type} : Left H := { results := [], args := [] }

/-- 'laws.FnValidClass': WHATEVER THE INPUT: true; the input reads as it did. -/
def fnValidClassSpec : ChangeSpec := { name := "fnValidClass", fn := fun _ => fun
  | [d] => { results := [.lit (.bool true)], args := [d] }
  | _ => none }
def fnValidClassRow : OpenClaim := { program := "ytfnlfhgjmnjgaaa", sum := "cd060925ba3ea1d1dbd493ffd94a4c516efc57b85ab31ae7561cba9a422fa4f9", func := "loop.example/shatteredsets/laws.FnValidClass", spec := "fnValidClass", apart := false }
def FnValidClassSaid : Prop := fnValidClassRow.holds Try.pinned (OpenSpec.ofChange fnValidClassSpec)

/-- ITS FALSE NEIGHBOUR: 'it returns false'. Refute it at one input. -/
def fnValidClassWrong : ChangeSpec := { name := "fnValidClass", fn := fun _ => fun
  | [d] => { results := [.lit (.bool false)], args := [d] }
  | _ => none }
def FnValidClassWrongFalsely : Prop := fnValidClassRow.holds Try.pinned (OpenSpec.ofChange fnValidClassWrong)

/-- 'laws.FnTraceOf': WHATEVER THE INPUT: true; the input reads as it did. -/
def fnTraceOfSpec : ChangeSpec := { name := "fnTraceOf", fn := fun _ => fun
  | [d] => { results := [.lit (.bool true)], args := [d] }
  | _ => none }
def fnTraceOfRow : OpenClaim := { program := "ytfnlfhgjmnjgaaa", sum := "cd060925ba3ea1d1dbd493ffd94a4c516efc57b85ab31ae7561cba9a422fa4f9", func := "loop.example/shatteredsets/laws.FnTraceOf", spec := "fnTraceOf", apart := false }
def FnTraceOfSaid : Prop := fnTraceOfRow.holds Try.pinned (OpenSpec.ofChange fnTraceOfSpec)

/-- ITS FALSE NEIGHBOUR: 'it returns false'. Refute it at one input. -/
def fnTraceOfWrong : ChangeSpec := { name := "fnTraceOf", fn := fun _ => fun
  | [d] => { results := [.lit (.bool false)], args := [d] }
  | _ => none }
def FnTraceOfWrongFalsely : Prop := fnTraceOfRow.holds Try.pinned (OpenSpec.ofChange fnTraceOfWrong)

/-- 'laws.FnIsShattered': WHATEVER THE INPUT: true; the input reads as it did. -/
def fnIsShatteredSpec : ChangeSpec := { name := "fnIsShattered", fn := fun _ => fun
  | [d] => { results := [.lit (.bool true)], args := [d] }
  | _ => none }
def fnIsShatteredRow : OpenClaim := { program := "ytfnlfhgjmnjgaaa", sum := "cd060925ba3ea1d1dbd493ffd94a4c516efc57b85ab31ae7561cba9a422fa4f9", func := "loop.example/shatteredsets/laws.FnIsShattered", spec := "fnIsShattered", apart := false }
def FnIsShatteredSaid : Prop := fnIsShatteredRow.holds Try.pinned (OpenSpec.ofChange fnIsShatteredSpec)

/-- ITS FALSE NEIGHBOUR: 'it returns false'. Refute it at one input. -/
def fnIsShatteredWrong : ChangeSpec := { name := "fnIsShattered", fn := fun _ => fun
  | [d] => { results := [.lit (.bool false)], args := [d] }
  | _ => none }
def FnIsShatteredWrongFalsely : Prop := fnIsShatteredRow.holds Try.pinned (OpenSpec.ofChange fnIsShatteredWrong)

/-- 'laws.FnShatteredSets': WHATEVER THE INPUT: true; the input reads as it did. -/
def fnShatteredSetsSpec : ChangeSpec := { name := "fnShatteredSets", fn := fun _ => fun
  | [d] => { results := [.lit (.bool true)], args := [d] }
  | _ => none }
def fnShatteredSetsRow : OpenClaim := { program := "ytfnlfhgjmnjgaaa", sum := "cd060925ba3ea1d1dbd493ffd94a4c516efc57b85ab31ae7561cba9a422fa4f9", func := "loop.example/shatteredsets/laws.FnShatteredSets", spec := "fnShatteredSets", unfollowed := true, recurses := true, apart := false }
def FnShatteredSetsSaid : Prop := fnShatteredSetsRow.holds Try.pinned (OpenSpec.ofChange fnShatteredSetsSpec)

/-- ITS FALSE NEIGHBOUR: 'it returns false'. Refute it at one input. -/
def fnShatteredSetsWrong : ChangeSpec := { name := "fnShatteredSets", fn := fun _ => fun
  | [d] => { results := [.lit (.bool false)], args := [d] }
  | _ => none }
def FnShatteredSetsWrongFalsely : Prop := fnShatteredSetsRow.holds Try.pinned (OpenSpec.ofChange fnShatteredSetsWrong)

/-- 'laws.FnVCDimension': WHATEVER THE INPUT: true; the input reads as it did. -/
def fnVCDimensionSpec : ChangeSpec := { name := "fnVCDimension", fn := fun _ => fun
  | [d] => { results := [.lit (.bool true)], args := [d] }
  | _ => none }
def fnVCDimensionRow : OpenClaim := { program := "ytfnlfhgjmnjgaaa", sum := "cd060925ba3ea1d1dbd493ffd94a4c516efc57b85ab31ae7561cba9a422fa4f9", func := "loop.example/shatteredsets/laws.FnVCDimension", spec := "fnVCDimension", unfollowed := true, recurses := true, apart := false }
def FnVCDimensionSaid : Prop := fnVCDimensionRow.holds Try.pinned (OpenSpec.ofChange fnVCDimensionSpec)

/-- ITS FALSE NEIGHBOUR: 'it returns false'. Refute it at one input. -/
def fnVCDimensionWrong : ChangeSpec := { name := "fnVCDimension", fn := fun _ => fun
  | [d] => { results := [.lit (.bool false)], args := [d] }
  | _ => none }
def FnVCDimensionWrongFalsely : Prop := fnVCDimensionRow.holds Try.pinned (OpenSpec.ofChange fnVCDimensionWrong)

/-- 'laws.FnIsStrong': WHATEVER THE INPUT: true; the input reads as it did. -/
def fnIsStrongSpec : ChangeSpec := { name := "fnIsStrong", fn := fun _ => fun
  | [d] => { results := [.lit (.bool true)], args := [d] }
  | _ => none }
def fnIsStrongRow : OpenClaim := { program := "ytfnlfhgjmnjgaaa", sum := "cd060925ba3ea1d1dbd493ffd94a4c516efc57b85ab31ae7561cba9a422fa4f9", func := "loop.example/shatteredsets/laws.FnIsStrong", spec := "fnIsStrong", apart := false }
def FnIsStrongSaid : Prop := fnIsStrongRow.holds Try.pinned (OpenSpec.ofChange fnIsStrongSpec)

/-- ITS FALSE NEIGHBOUR: 'it returns false'. Refute it at one input. -/
def fnIsStrongWrong : ChangeSpec := { name := "fnIsStrong", fn := fun _ => fun
  | [d] => { results := [.lit (.bool false)], args := [d] }
  | _ => none }
def FnIsStrongWrongFalsely : Prop := fnIsStrongRow.holds Try.pinned (OpenSpec.ofChange fnIsStrongWrong)

/-- 'laws.FnStrongSets': WHATEVER THE INPUT: true; the input reads as it did. -/
def fnStrongSetsSpec : ChangeSpec := { name := "fnStrongSets", fn := fun _ => fun
  | [d] => { results := [.lit (.bool true)], args := [d] }
  | _ => none }
def fnStrongSetsRow : OpenClaim := { program := "ytfnlfhgjmnjgaaa", sum := "cd060925ba3ea1d1dbd493ffd94a4c516efc57b85ab31ae7561cba9a422fa4f9", func := "loop.example/shatteredsets/laws.FnStrongSets", spec := "fnStrongSets", unfollowed := true, recurses := true, apart := false }
def FnStrongSetsSaid : Prop := fnStrongSetsRow.holds Try.pinned (OpenSpec.ofChange fnStrongSetsSpec)

/-- ITS FALSE NEIGHBOUR: 'it returns false'. Refute it at one input. -/
def fnStrongSetsWrong : ChangeSpec := { name := "fnStrongSets", fn := fun _ => fun
  | [d] => { results := [.lit (.bool false)], args := [d] }
  | _ => none }
def FnStrongSetsWrongFalsely : Prop := fnStrongSetsRow.holds Try.pinned (OpenSpec.ofChange fnStrongSetsWrong)

/- THE SECOND FORM. 'bulk': how many values and letters a reading holds, each counted each time it is reached (what is shared counts as often as it is met; a slice's spare places count too). A statement '..UptoSaid' is the law's where the arguments, and the package variables that the reading takes, are together of bulk at most 1048576: NARROWER than '..Said'. Prove '..Said' where nothing that the law and all that it calls make is longer than what came in: it says more and counts as full. Else prove '..UptoSaid'. A law counts once. -/
mutual
def uptoBulk {H : Type} : DataW H → Nat
  | .lit (.string bytes) => bytes.length + 1
  | .lit _ => 1
  | .nil => 1
  | .ptr d => uptoBulk d + 1
  | .slice elems spare => uptoBulkAll elems + uptoBulkAll spare + 1
  | .agg parts => uptoBulkAll parts + 1
  | .iface _ d => uptoBulk d + 1
  | .map entries => uptoBulkEntries entries + 1
  | .held _ => 1
def uptoBulkAll {H : Type} : List (DataW H) → Nat
  | [] => 0
  | d :: r => uptoBulk d + uptoBulkAll r
def uptoBulkEntries {H : Type} : List (Lit × DataW H) → Nat
  | [] => 0
  | x :: r => uptoBulkEntry x + uptoBulkEntries r
def uptoBulkEntry {H : Type} : Lit × DataW H → Nat
  | (.string bytes, d) => bytes.length + uptoBulk d + 1
  | (_, d) => uptoBulk d + 1
 end
def uptoSmall : (H : Type) → List (DataW H) → Bool := fun _ ds => decide (uptoBulkAll ds ≤ 1048576)
def OpenSpec.upto (s : _root_.Go.ChangeSpec) : _root_.Go.OpenSpec := { _root_.Go.OpenSpec.ofChange s with cond := some uptoSmall }

/-- 'laws.FnValidClass', WHERE WHAT IT READS IS OF BULK AT MOST 1048576: true; the input reads as it did. -/
def fnValidClassUptoRow : OpenClaim := { program := "ytfnlfhgjmnjgaaa", sum := "cd060925ba3ea1d1dbd493ffd94a4c516efc57b85ab31ae7561cba9a422fa4f9", func := "loop.example/shatteredsets/laws.FnValidClass", spec := "fnValidClass", apart := false, narrowed := true }
def FnValidClassUptoSaid : Prop := fnValidClassUptoRow.holds Try.pinned (OpenSpec.upto fnValidClassSpec)

/-- 'laws.FnTraceOf', WHERE WHAT IT READS IS OF BULK AT MOST 1048576: true; the input reads as it did. -/
def fnTraceOfUptoRow : OpenClaim := { program := "ytfnlfhgjmnjgaaa", sum := "cd060925ba3ea1d1dbd493ffd94a4c516efc57b85ab31ae7561cba9a422fa4f9", func := "loop.example/shatteredsets/laws.FnTraceOf", spec := "fnTraceOf", apart := false, narrowed := true }
def FnTraceOfUptoSaid : Prop := fnTraceOfUptoRow.holds Try.pinned (OpenSpec.upto fnTraceOfSpec)

/-- 'laws.FnIsShattered', WHERE WHAT IT READS IS OF BULK AT MOST 1048576: true; the input reads as it did. -/
def fnIsShatteredUptoRow : OpenClaim := { program := "ytfnlfhgjmnjgaaa", sum := "cd060925ba3ea1d1dbd493ffd94a4c516efc57b85ab31ae7561cba9a422fa4f9", func := "loop.example/shatteredsets/laws.FnIsShattered", spec := "fnIsShattered", apart := false, narrowed := true }
def FnIsShatteredUptoSaid : Prop := fnIsShatteredUptoRow.holds Try.pinned (OpenSpec.upto fnIsShatteredSpec)

/-- 'laws.FnShatteredSets', WHERE WHAT IT READS IS OF BULK AT MOST 1048576: true; the input reads as it did. -/
def fnShatteredSetsUptoRow : OpenClaim := { program := "ytfnlfhgjmnjgaaa", sum := "cd060925ba3ea1d1dbd493ffd94a4c516efc57b85ab31ae7561cba9a422fa4f9", func := "loop.example/shatteredsets/laws.FnShatteredSets", spec := "fnShatteredSets", unfollowed := true, recurses := true, apart := false, narrowed := true }
def FnShatteredSetsUptoSaid : Prop := fnShatteredSetsUptoRow.holds Try.pinned (OpenSpec.upto fnShatteredSetsSpec)

/-- 'laws.FnVCDimension', WHERE WHAT IT READS IS OF BULK AT MOST 1048576: true; the input reads as it did. -/
def fnVCDimensionUptoRow : OpenClaim := { program := "ytfnlfhgjmnjgaaa", sum := "cd060925ba3ea1d1dbd493ffd94a4c516efc57b85ab31ae7561cba9a422fa4f9", func := "loop.example/shatteredsets/laws.FnVCDimension", spec := "fnVCDimension", unfollowed := true, recurses := true, apart := false, narrowed := true }
def FnVCDimensionUptoSaid : Prop := fnVCDimensionUptoRow.holds Try.pinned (OpenSpec.upto fnVCDimensionSpec)

/-- 'laws.FnIsStrong', WHERE WHAT IT READS IS OF BULK AT MOST 1048576: true; the input reads as it did. -/
def fnIsStrongUptoRow : OpenClaim := { program := "ytfnlfhgjmnjgaaa", sum := "cd060925ba3ea1d1dbd493ffd94a4c516efc57b85ab31ae7561cba9a422fa4f9", func := "loop.example/shatteredsets/laws.FnIsStrong", spec := "fnIsStrong", apart := false, narrowed := true }
def FnIsStrongUptoSaid : Prop := fnIsStrongUptoRow.holds Try.pinned (OpenSpec.upto fnIsStrongSpec)

/-- 'laws.FnStrongSets', WHERE WHAT IT READS IS OF BULK AT MOST 1048576: true; the input reads as it did. -/
def fnStrongSetsUptoRow : OpenClaim := { program := "ytfnlfhgjmnjgaaa", sum := "cd060925ba3ea1d1dbd493ffd94a4c516efc57b85ab31ae7561cba9a422fa4f9", func := "loop.example/shatteredsets/laws.FnStrongSets", spec := "fnStrongSets", unfollowed := true, recurses := true, apart := false, narrowed := true }
def FnStrongSetsUptoSaid : Prop := fnStrongSetsUptoRow.holds Try.pinned (OpenSpec.upto fnStrongSetsSpec)

end Rows
end Go.Proofs.Ytfnlfhgjmnjgaaa
