/-
  No cell of these rows narrows 'for every input' (looked for: loops, veiled, ifaces, maps, wideKeys, modest, calm, conditions, laid).
  DERIVED. THE GIVEN ROWS OF THIS SEAT. 6 by the template 'for every input the law returns true; each argument reads behind the call as it read before'; 0 by the template 'total and deterministic' (their statements: YtfnlfhgjmnjgaabTotals.lean).
  GIVEN WITH THE SEED: the statements are not yours to turn. If you find one false, say at which input.
  Laid BY PROGRAM, IN A SANDBOX (cutbox-rows.mjs): the forced cells as the released guide's own fill.sh prints them over the translation 747bcab9b5cb7c3f… (all of the seat's roots in one cut). By AI agents, Wed Nov 11 2026. No macro, syntax, notation, axiom, sorry.
-/
import Derived.Test.YtfnlfhgjmnjgaabChecked
import GoSem.Claim
import GoSem.ClaimJoined
import GoSem.ClaimMapViews
import Derived.JoinedTies
import Derived.KernelRfl
namespace Go.Proofs.Ytfnlfhgjmnjgaab
/- THE CELL 'sum', in the pinned program and in every row, IS THE sha256 OF THE DUMP (.gsa) THAT YtfnlfhgjmnjgaabProg.lean LOADS. Nothing in Lean hashes anything: it is a label: what it is worth is what the hold of that sum in a sandbox is worth. -/
noncomputable def Try.pinned : Pinned := { name := "ytfnlfhgjmnjgaab", sum := "747bcab9b5cb7c3f2e5c881b4a05a42c6f586455442784a3c3d19bd222b1bfa7", checked := Try.checked }
namespace Rows
def none {H : Type} : Left H := { results := [], args := [] }

/-- 'laws.FnGrowthOf': WHATEVER THE INPUT: true; the input reads as it did. -/
def fnGrowthOfSpec : ChangeSpec := { name := "fnGrowthOf", fn := fun _ => fun
  | [d] => { results := [.lit (.bool true)], args := [d] }
  | _ => none }
def fnGrowthOfRow : OpenClaim := { program := "ytfnlfhgjmnjgaab", sum := "747bcab9b5cb7c3f2e5c881b4a05a42c6f586455442784a3c3d19bd222b1bfa7", func := "loop.example/shatteredsets/laws.FnGrowthOf", spec := "fnGrowthOf", unfollowed := true, recurses := true, apart := false }
def FnGrowthOfSaid : Prop := fnGrowthOfRow.holds Try.pinned (OpenSpec.ofChange fnGrowthOfSpec)

/-- ITS FALSE NEIGHBOUR: 'it returns false'. Refute it at one input. -/
def fnGrowthOfWrong : ChangeSpec := { name := "fnGrowthOf", fn := fun _ => fun
  | [d] => { results := [.lit (.bool false)], args := [d] }
  | _ => none }
def FnGrowthOfWrongFalsely : Prop := fnGrowthOfRow.holds Try.pinned (OpenSpec.ofChange fnGrowthOfWrong)

/-- 'laws.FnIsMaximum': WHATEVER THE INPUT: true; the input reads as it did. -/
def fnIsMaximumSpec : ChangeSpec := { name := "fnIsMaximum", fn := fun _ => fun
  | [d] => { results := [.lit (.bool true)], args := [d] }
  | _ => none }
def fnIsMaximumRow : OpenClaim := { program := "ytfnlfhgjmnjgaab", sum := "747bcab9b5cb7c3f2e5c881b4a05a42c6f586455442784a3c3d19bd222b1bfa7", func := "loop.example/shatteredsets/laws.FnIsMaximum", spec := "fnIsMaximum", unfollowed := true, recurses := true, apart := false }
def FnIsMaximumSaid : Prop := fnIsMaximumRow.holds Try.pinned (OpenSpec.ofChange fnIsMaximumSpec)

/-- ITS FALSE NEIGHBOUR: 'it returns false'. Refute it at one input. -/
def fnIsMaximumWrong : ChangeSpec := { name := "fnIsMaximum", fn := fun _ => fun
  | [d] => { results := [.lit (.bool false)], args := [d] }
  | _ => none }
def FnIsMaximumWrongFalsely : Prop := fnIsMaximumRow.holds Try.pinned (OpenSpec.ofChange fnIsMaximumWrong)

/-- 'laws.FnIsExtremal': WHATEVER THE INPUT: true; the input reads as it did. -/
def fnIsExtremalSpec : ChangeSpec := { name := "fnIsExtremal", fn := fun _ => fun
  | [d] => { results := [.lit (.bool true)], args := [d] }
  | _ => none }
def fnIsExtremalRow : OpenClaim := { program := "ytfnlfhgjmnjgaab", sum := "747bcab9b5cb7c3f2e5c881b4a05a42c6f586455442784a3c3d19bd222b1bfa7", func := "loop.example/shatteredsets/laws.FnIsExtremal", spec := "fnIsExtremal", unfollowed := true, recurses := true, apart := false }
def FnIsExtremalSaid : Prop := fnIsExtremalRow.holds Try.pinned (OpenSpec.ofChange fnIsExtremalSpec)

/-- ITS FALSE NEIGHBOUR: 'it returns false'. Refute it at one input. -/
def fnIsExtremalWrong : ChangeSpec := { name := "fnIsExtremal", fn := fun _ => fun
  | [d] => { results := [.lit (.bool false)], args := [d] }
  | _ => none }
def FnIsExtremalWrongFalsely : Prop := fnIsExtremalRow.holds Try.pinned (OpenSpec.ofChange fnIsExtremalWrong)

/-- 'laws.FnSettleClass': WHATEVER THE INPUT: true; the input reads as it did. -/
def fnSettleClassSpec : ChangeSpec := { name := "fnSettleClass", fn := fun _ => fun
  | [d] => { results := [.lit (.bool true)], args := [d] }
  | _ => none }
def fnSettleClassRow : OpenClaim := { program := "ytfnlfhgjmnjgaab", sum := "747bcab9b5cb7c3f2e5c881b4a05a42c6f586455442784a3c3d19bd222b1bfa7", func := "loop.example/shatteredsets/laws.FnSettleClass", spec := "fnSettleClass", unfollowed := true, recurses := true, apart := false }
def FnSettleClassSaid : Prop := fnSettleClassRow.holds Try.pinned (OpenSpec.ofChange fnSettleClassSpec)

/-- ITS FALSE NEIGHBOUR: 'it returns false'. Refute it at one input. -/
def fnSettleClassWrong : ChangeSpec := { name := "fnSettleClass", fn := fun _ => fun
  | [d] => { results := [.lit (.bool false)], args := [d] }
  | _ => none }
def FnSettleClassWrongFalsely : Prop := fnSettleClassRow.holds Try.pinned (OpenSpec.ofChange fnSettleClassWrong)

/-- 'laws.FnRemovePoint': WHATEVER THE INPUT: true; the input reads as it did. -/
def fnRemovePointSpec : ChangeSpec := { name := "fnRemovePoint", fn := fun _ => fun
  | [d] => { results := [.lit (.bool true)], args := [d] }
  | _ => none }
def fnRemovePointRow : OpenClaim := { program := "ytfnlfhgjmnjgaab", sum := "747bcab9b5cb7c3f2e5c881b4a05a42c6f586455442784a3c3d19bd222b1bfa7", func := "loop.example/shatteredsets/laws.FnRemovePoint", spec := "fnRemovePoint", unfollowed := true, recurses := true, apart := false }
def FnRemovePointSaid : Prop := fnRemovePointRow.holds Try.pinned (OpenSpec.ofChange fnRemovePointSpec)

/-- ITS FALSE NEIGHBOUR: 'it returns false'. Refute it at one input. -/
def fnRemovePointWrong : ChangeSpec := { name := "fnRemovePoint", fn := fun _ => fun
  | [d] => { results := [.lit (.bool false)], args := [d] }
  | _ => none }
def FnRemovePointWrongFalsely : Prop := fnRemovePointRow.holds Try.pinned (OpenSpec.ofChange fnRemovePointWrong)

/-- 'laws.FnDualClass': WHATEVER THE INPUT: true; the input reads as it did. -/
def fnDualClassSpec : ChangeSpec := { name := "fnDualClass", fn := fun _ => fun
  | [d] => { results := [.lit (.bool true)], args := [d] }
  | _ => none }
def fnDualClassRow : OpenClaim := { program := "ytfnlfhgjmnjgaab", sum := "747bcab9b5cb7c3f2e5c881b4a05a42c6f586455442784a3c3d19bd222b1bfa7", func := "loop.example/shatteredsets/laws.FnDualClass", spec := "fnDualClass", unfollowed := true, recurses := true, apart := false }
def FnDualClassSaid : Prop := fnDualClassRow.holds Try.pinned (OpenSpec.ofChange fnDualClassSpec)

/-- ITS FALSE NEIGHBOUR: 'it returns false'. Refute it at one input. -/
def fnDualClassWrong : ChangeSpec := { name := "fnDualClass", fn := fun _ => fun
  | [d] => { results := [.lit (.bool false)], args := [d] }
  | _ => none }
def FnDualClassWrongFalsely : Prop := fnDualClassRow.holds Try.pinned (OpenSpec.ofChange fnDualClassWrong)

/- THE SECOND FORM. 'bulk': how many values and letters a reading holds, each counted each time it is reached (what is shared counts as often as it is met; a slice's spare places count too). A statement '..UptoSaid' is the law's where the arguments, and the package variables that the reading takes, are together of bulk at most 1048576: NARROWER than '..Said'. Prove '..Said' where nothing that the law and all that it calls make is longer than what came in: it says more and counts as full. Else prove '..UptoSaid'. A law counts once. -/
mutual
def uptoBulk {H : Type} : DataW H → Nat
  | .lit (.string bytes) => bytes.length + 1
  | .lit _ => 1
  | .nil => 1
  | .ptr d => uptoBulk d + 1
  | .slice elems spare => uptoBulkAll elems + uptoBulkAll spare + 1
  | .agg parts => uptoBulkAll parts + 1
  | .iface _ d => uptoBulk d + 1
  | .map entries => uptoBulkEntries entries + 1
  | .held _ => 1
def uptoBulkAll {H : Type} : List (DataW H) → Nat
  | [] => 0
  | d :: r => uptoBulk d + uptoBulkAll r
def uptoBulkEntries {H : Type} : List (Lit × DataW H) → Nat
  | [] => 0
  | x :: r => uptoBulkEntry x + uptoBulkEntries r
def uptoBulkEntry {H : Type} : Lit × DataW H → Nat
  | (.string bytes, d) => bytes.length + uptoBulk d + 1
  | (_, d) => uptoBulk d + 1
 end
def uptoSmall : (H : Type) → List (DataW H) → Bool := fun _ ds => decide (uptoBulkAll ds ≤ 1048576)
def OpenSpec.upto (s : _root_.Go.ChangeSpec) : _root_.Go.OpenSpec := { _root_.Go.OpenSpec.ofChange s with cond := some uptoSmall }

/-- 'laws.FnGrowthOf', WHERE WHAT IT READS IS OF BULK AT MOST 1048576: true; the input reads as it did. -/
def fnGrowthOfUptoRow : OpenClaim := { program := "ytfnlfhgjmnjgaab", sum := "747bcab9b5cb7c3f2e5c881b4a05a42c6f586455442784a3c3d19bd222b1bfa7", func := "loop.example/shatteredsets/laws.FnGrowthOf", spec := "fnGrowthOf", unfollowed := true, recurses := true, apart := false, narrowed := true }
def FnGrowthOfUptoSaid : Prop := fnGrowthOfUptoRow.holds Try.pinned (OpenSpec.upto fnGrowthOfSpec)

/-- 'laws.FnIsMaximum', WHERE WHAT IT READS IS OF BULK AT MOST 1048576: true; the input reads as it did. -/
def fnIsMaximumUptoRow : OpenClaim := { program := "ytfnlfhgjmnjgaab", sum := "747bcab9b5cb7c3f2e5c881b4a05a42c6f586455442784a3c3d19bd222b1bfa7", func := "loop.example/shatteredsets/laws.FnIsMaximum", spec := "fnIsMaximum", unfollowed := true, recurses := true, apart := false, narrowed := true }
def FnIsMaximumUptoSaid : Prop := fnIsMaximumUptoRow.holds Try.pinned (OpenSpec.upto fnIsMaximumSpec)

/-- 'laws.FnIsExtremal', WHERE WHAT IT READS IS OF BULK AT MOST 1048576: true; the input reads as it did. -/
def fnIsExtremalUptoRow : OpenClaim := { program := "ytfnlfhgjmnjgaab", sum := "747bcab9b5cb7c3f2e5c881b4a05a42c6f586455442784a3c3d19bd222b1bfa7", func := "loop.example/shatteredsets/laws.FnIsExtremal", spec := "fnIsExtremal", unfollowed := true, recurses := true, apart := false, narrowed := true }
def FnIsExtremalUptoSaid : Prop := fnIsExtremalUptoRow.holds Try.pinned (OpenSpec.upto fnIsExtremalSpec)

/-- 'laws.FnSettleClass', WHERE WHAT IT READS IS OF BULK AT MOST 1048576: true; the input reads as it did. -/
def fnSettleClassUptoRow : OpenClaim := { program := "ytfnlfhgjmnjgaab", sum := "747bcab9b5cb7c3f2e5c881b4a05a42c6f586455442784a3c3d19bd222b1bfa7", func := "loop.example/shatteredsets/laws.FnSettleClass", spec := "fnSettleClass", unfollowed := true, recurses := true, apart := false, narrowed := true }
def FnSettleClassUptoSaid : Prop := fnSettleClassUptoRow.holds Try.pinned (OpenSpec.upto fnSettleClassSpec)

/-- 'laws.FnRemovePoint', WHERE WHAT IT READS IS OF BULK AT MOST 1048576: true; the input reads as it did. -/
def fnRemovePointUptoRow : OpenClaim := { program := "ytfnlfhgjmnjgaab", sum := "747bcab9b5cb7c3f2e5c881b4a05a42c6f586455442784a3c3d19bd222b1bfa7", func := "loop.example/shatteredsets/laws.FnRemovePoint", spec := "fnRemovePoint", unfollowed := true, recurses := true, apart := false, narrowed := true }
def FnRemovePointUptoSaid : Prop := fnRemovePointUptoRow.holds Try.pinned (OpenSpec.upto fnRemovePointSpec)

/-- 'laws.FnDualClass', WHERE WHAT IT READS IS OF BULK AT MOST 1048576: true; the input reads as it did. -/
def fnDualClassUptoRow : OpenClaim := { program := "ytfnlfhgjmnjgaab", sum := "747bcab9b5cb7c3f2e5c881b4a05a42c6f586455442784a3c3d19bd222b1bfa7", func := "loop.example/shatteredsets/laws.FnDualClass", spec := "fnDualClass", unfollowed := true, recurses := true, apart := false, narrowed := true }
def FnDualClassUptoSaid : Prop := fnDualClassUptoRow.holds Try.pinned (OpenSpec.upto fnDualClassSpec)

end Rows
end Go.Proofs.Ytfnlfhgjmnjgaab
