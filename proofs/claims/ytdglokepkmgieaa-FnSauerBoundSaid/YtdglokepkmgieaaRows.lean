/-
  No cell of these rows narrows 'for every input' (looked for: loops, veiled, ifaces, maps, wideKeys, modest, calm, conditions, laid).
  DERIVED. THE GIVEN ROWS OF THIS SEAT. 5 by the template 'for every input the law returns true; each argument reads behind the call as it read before'; 0 by the template 'total and deterministic' (their statements: YtdglokepkmgieaaTotals.lean).
  GIVEN WITH THE SEED: the statements are not yours to turn. If you find one false, say at which input.
  Laid BY PROGRAM, IN A SANDBOX (cutbox-rows.mjs): the forced cells as the released guide's own fill.sh prints them over the translation 2c9d5c98f6df45ba… (all of the seat's roots in one cut). By AI agents, Wed Nov 11 2026. No macro, syntax, notation, axiom, sorry.
-/
import Derived.Test.YtdglokepkmgieaaChecked
import GoSem.Claim
import GoSem.ClaimJoined
import GoSem.ClaimMapViews
import Derived.JoinedTies
import Derived.KernelRfl
namespace Go.Proofs.Ytdglokepkmgieaa
/- THE CELL 'sum', in the pinned program and in every row, IS THE sha256 OF THE DUMP (.gsa) THAT YtdglokepkmgieaaProg.lean LOADS. Nothing in Lean hashes anything: it is a label: what it is worth is what the hold of that sum in a sandbox is worth. -/
noncomputable def Try.pinned : Pinned := { name := "ytdglokepkmgieaa", sum := "2c9d5c98f6df45babb66a594945a082bd2ec657f6b86f73ac61a03cb8f2f5c28", checked := Try.checked }
namespace Rows
def none {H : Type} : Left H := { results := [], args := [] }

/-- 'laws.FnValidClass': WHATEVER THE INPUT: true; the input reads as it did. -/
def fnValidClassSpec : ChangeSpec := { name := "fnValidClass", fn := fun _ => fun
  | [d] => { results := [.lit (.bool true)], args := [d] }
  | _ => none }
def fnValidClassRow : OpenClaim := { program := "ytdglokepkmgieaa", sum := "2c9d5c98f6df45babb66a594945a082bd2ec657f6b86f73ac61a03cb8f2f5c28", func := "loop.example/shatteredsets/laws.FnValidClass", spec := "fnValidClass", apart := false }
def FnValidClassSaid : Prop := fnValidClassRow.holds Try.pinned (OpenSpec.ofChange fnValidClassSpec)

/-- ITS FALSE NEIGHBOUR: 'it returns false'. Refute it at one input. -/
def fnValidClassWrong : ChangeSpec := { name := "fnValidClass", fn := fun _ => fun
  | [d] => { results := [.lit (.bool false)], args := [d] }
  | _ => none }
def FnValidClassWrongFalsely : Prop := fnValidClassRow.holds Try.pinned (OpenSpec.ofChange fnValidClassWrong)

/-- 'laws.FnTraceOf': WHATEVER THE INPUT: true; the input reads as it did. -/
def fnTraceOfSpec : ChangeSpec := { name := "fnTraceOf", fn := fun _ => fun
  | [d] => { results := [.lit (.bool true)], args := [d] }
  | _ => none }
def fnTraceOfRow : OpenClaim := { program := "ytdglokepkmgieaa", sum := "2c9d5c98f6df45babb66a594945a082bd2ec657f6b86f73ac61a03cb8f2f5c28", func := "loop.example/shatteredsets/laws.FnTraceOf", spec := "fnTraceOf", apart := false }
def FnTraceOfSaid : Prop := fnTraceOfRow.holds Try.pinned (OpenSpec.ofChange fnTraceOfSpec)

/-- ITS FALSE NEIGHBOUR: 'it returns false'. Refute it at one input. -/
def fnTraceOfWrong : ChangeSpec := { name := "fnTraceOf", fn := fun _ => fun
  | [d] => { results := [.lit (.bool false)], args := [d] }
  | _ => none }
def FnTraceOfWrongFalsely : Prop := fnTraceOfRow.holds Try.pinned (OpenSpec.ofChange fnTraceOfWrong)

/-- 'laws.FnIsShattered': WHATEVER THE INPUT: true; the input reads as it did. -/
def fnIsShatteredSpec : ChangeSpec := { name := "fnIsShattered", fn := fun _ => fun
  | [d] => { results := [.lit (.bool true)], args := [d] }
  | _ => none }
def fnIsShatteredRow : OpenClaim := { program := "ytdglokepkmgieaa", sum := "2c9d5c98f6df45babb66a594945a082bd2ec657f6b86f73ac61a03cb8f2f5c28", func := "loop.example/shatteredsets/laws.FnIsShattered", spec := "fnIsShattered", apart := false }
def FnIsShatteredSaid : Prop := fnIsShatteredRow.holds Try.pinned (OpenSpec.ofChange fnIsShatteredSpec)

/-- ITS FALSE NEIGHBOUR: 'it returns false'. Refute it at one input. -/
def fnIsShatteredWrong : ChangeSpec := { name := "fnIsShattered", fn := fun _ => fun
  | [d] => { results := [.lit (.bool false)], args := [d] }
  | _ => none }
def FnIsShatteredWrongFalsely : Prop := fnIsShatteredRow.holds Try.pinned (OpenSpec.ofChange fnIsShatteredWrong)

/-- 'laws.FnVCDimension': WHATEVER THE INPUT: true; the input reads as it did. -/
def fnVCDimensionSpec : ChangeSpec := { name := "fnVCDimension", fn := fun _ => fun
  | [d] => { results := [.lit (.bool true)], args := [d] }
  | _ => none }
def fnVCDimensionRow : OpenClaim := { program := "ytdglokepkmgieaa", sum := "2c9d5c98f6df45babb66a594945a082bd2ec657f6b86f73ac61a03cb8f2f5c28", func := "loop.example/shatteredsets/laws.FnVCDimension", spec := "fnVCDimension", unfollowed := true, recurses := true, apart := false }
def FnVCDimensionSaid : Prop := fnVCDimensionRow.holds Try.pinned (OpenSpec.ofChange fnVCDimensionSpec)

/-- ITS FALSE NEIGHBOUR: 'it returns false'. Refute it at one input. -/
def fnVCDimensionWrong : ChangeSpec := { name := "fnVCDimension", fn := fun _ => fun
  | [d] => { results := [.lit (.bool false)], args := [d] }
  | _ => none }
def FnVCDimensionWrongFalsely : Prop := fnVCDimensionRow.holds Try.pinned (OpenSpec.ofChange fnVCDimensionWrong)

/-- 'laws.FnSauerBound': WHATEVER THE INPUT: true; the input reads as it did. -/
def fnSauerBoundSpec : ChangeSpec := { name := "fnSauerBound", fn := fun _ => fun
  | [d] => { results := [.lit (.bool true)], args := [d] }
  | _ => none }
def fnSauerBoundRow : OpenClaim := { program := "ytdglokepkmgieaa", sum := "2c9d5c98f6df45babb66a594945a082bd2ec657f6b86f73ac61a03cb8f2f5c28", func := "loop.example/shatteredsets/laws.FnSauerBound", spec := "fnSauerBound", apart := false }
def FnSauerBoundSaid : Prop := fnSauerBoundRow.holds Try.pinned (OpenSpec.ofChange fnSauerBoundSpec)

/-- ITS FALSE NEIGHBOUR: 'it returns false'. Refute it at one input. -/
def fnSauerBoundWrong : ChangeSpec := { name := "fnSauerBound", fn := fun _ => fun
  | [d] => { results := [.lit (.bool false)], args := [d] }
  | _ => none }
def FnSauerBoundWrongFalsely : Prop := fnSauerBoundRow.holds Try.pinned (OpenSpec.ofChange fnSauerBoundWrong)

/- THE SECOND FORM. 'bulk': how many values and letters a reading holds, each counted each time it is reached (what is shared counts as often as it is met; a slice's spare places count too). A statement '..UptoSaid' is the law's where the arguments, and the package variables that the reading takes, are together of bulk at most 1048576: NARROWER than '..Said'. Prove '..Said' where nothing that the law and all that it calls make is longer than what came in: it says more and counts as full. Else prove '..UptoSaid'. A law counts once. -/
mutual
def uptoBulk {H : Type} : DataW H → Nat
  | .lit (.string bytes) => bytes.length + 1
  | .lit _ => 1
  | .nil => 1
  | .ptr d => uptoBulk d + 1
  | .slice elems spare => uptoBulkAll elems + uptoBulkAll spare + 1
  | .agg parts => uptoBulkAll parts + 1
  | .iface _ d => uptoBulk d + 1
  | .map entries => uptoBulkEntries entries + 1
  | .held _ => 1
def uptoBulkAll {H : Type} : List (DataW H) → Nat
  | [] => 0
  | d :: r => uptoBulk d + uptoBulkAll r
def uptoBulkEntries {H : Type} : List (Lit × DataW H) → Nat
  | [] => 0
  | x :: r => uptoBulkEntry x + uptoBulkEntries r
def uptoBulkEntry {H : Type} : Lit × DataW H → Nat
  | (.string bytes, d) => bytes.length + uptoBulk d + 1
  | (_, d) => uptoBulk d + 1
 end
def uptoSmall : (H : Type) → List (DataW H) → Bool := fun _ ds => decide (uptoBulkAll ds ≤ 1048576)
def OpenSpec.upto (s : _root_.Go.ChangeSpec) : _root_.Go.OpenSpec := { _root_.Go.OpenSpec.ofChange s with cond := some uptoSmall }

/-- 'laws.FnValidClass', WHERE WHAT IT READS IS OF BULK AT MOST 1048576: true; the input reads as it did. -/
def fnValidClassUptoRow : OpenClaim := { program := "ytdglokepkmgieaa", sum := "2c9d5c98f6df45babb66a594945a082bd2ec657f6b86f73ac61a03cb8f2f5c28", func := "loop.example/shatteredsets/laws.FnValidClass", spec := "fnValidClass", apart := false, narrowed := true }
def FnValidClassUptoSaid : Prop := fnValidClassUptoRow.holds Try.pinned (OpenSpec.upto fnValidClassSpec)

/-- 'laws.FnTraceOf', WHERE WHAT IT READS IS OF BULK AT MOST 1048576: true; the input reads as it did. -/
def fnTraceOfUptoRow : OpenClaim := { program := "ytdglokepkmgieaa", sum := "2c9d5c98f6df45babb66a594945a082bd2ec657f6b86f73ac61a03cb8f2f5c28", func := "loop.example/shatteredsets/laws.FnTraceOf", spec := "fnTraceOf", apart := false, narrowed := true }
def FnTraceOfUptoSaid : Prop := fnTraceOfUptoRow.holds Try.pinned (OpenSpec.upto fnTraceOfSpec)

/-- 'laws.FnIsShattered', WHERE WHAT IT READS IS OF BULK AT MOST 1048576: true; the input reads as it did. -/
def fnIsShatteredUptoRow : OpenClaim := { program := "ytdglokepkmgieaa", sum := "2c9d5c98f6df45babb66a594945a082bd2ec657f6b86f73ac61a03cb8f2f5c28", func := "loop.example/shatteredsets/laws.FnIsShattered", spec := "fnIsShattered", apart := false, narrowed := true }
def FnIsShatteredUptoSaid : Prop := fnIsShatteredUptoRow.holds Try.pinned (OpenSpec.upto fnIsShatteredSpec)

/-- 'laws.FnVCDimension', WHERE WHAT IT READS IS OF BULK AT MOST 1048576: true; the input reads as it did. -/
def fnVCDimensionUptoRow : OpenClaim := { program := "ytdglokepkmgieaa", sum := "2c9d5c98f6df45babb66a594945a082bd2ec657f6b86f73ac61a03cb8f2f5c28", func := "loop.example/shatteredsets/laws.FnVCDimension", spec := "fnVCDimension", unfollowed := true, recurses := true, apart := false, narrowed := true }
def FnVCDimensionUptoSaid : Prop := fnVCDimensionUptoRow.holds Try.pinned (OpenSpec.upto fnVCDimensionSpec)

/-- 'laws.FnSauerBound', WHERE WHAT IT READS IS OF BULK AT MOST 1048576: true; the input reads as it did. -/
def fnSauerBoundUptoRow : OpenClaim := { program := "ytdglokepkmgieaa", sum := "2c9d5c98f6df45babb66a594945a082bd2ec657f6b86f73ac61a03cb8f2f5c28", func := "loop.example/shatteredsets/laws.FnSauerBound", spec := "fnSauerBound", apart := false, narrowed := true }
def FnSauerBoundUptoSaid : Prop := fnSauerBoundUptoRow.holds Try.pinned (OpenSpec.upto fnSauerBoundSpec)

end Rows
end Go.Proofs.Ytdglokepkmgieaa
