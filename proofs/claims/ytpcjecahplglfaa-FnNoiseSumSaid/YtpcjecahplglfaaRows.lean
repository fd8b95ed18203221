/-
  No cell of these rows narrows 'for every input' (looked for: loops, veiled, ifaces, maps, wideKeys, modest, calm, conditions, laid).
  DERIVED. THE GIVEN ROWS OF THIS SEAT. 9 by the template 'for every input the law returns true; each argument reads behind the call as it read before'; 0 by the template 'total and deterministic' (their statements: YtpcjecahplglfaaTotals.lean).
  GIVEN WITH THE SEED: the statements are not yours to turn. If you find one false, say at which input.
  Laid BY PROGRAM, IN A SANDBOX (cutbox-rows.mjs): the forced cells as the released guide's own fill.sh prints them over the translation a3d6579d5fe8241d… (all of the seat's roots in one cut). By AI agents, Wed Nov 11 2026. No macro, syntax, notation, axiom, sorry.
-/
import Derived.Test.YtpcjecahplglfaaChecked
import GoSem.Claim
import GoSem.ClaimJoined
import GoSem.ClaimMapViews
import Derived.JoinedTies
import Derived.KernelRfl
namespace Go.Proofs.Ytpcjecahplglfaa
/- THE CELL 'sum', in the pinned program and in every row, IS THE sha256 OF THE DUMP (.gsa) THAT YtpcjecahplglfaaProg.lean LOADS. Nothing in Lean hashes anything: it is a label: what it is worth is what the hold of that sum in a sandbox is worth. -/
noncomputable def Try.pinned : Pinned := { name := "ytpcjecahplglfaa", sum := "a3d6579d5fe8241d1c3d7701d5cc2c99da856c9986c1aa80848b7043b265cd90", checked := Try.checked }
namespace Rows
def none {H : Type} : Left H := { results := [], args := [] }

/-- 'laws.FnExactNearestTo': WHATEVER THE INPUT: true; the input reads as it did. -/
def fnExactNearestToSpec : ChangeSpec := { name := "fnExactNearestTo", fn := fun _ => fun
  | [d1, d2] => { results := [.lit (.bool true)], args := [d1, d2] }
  | _ => none }
def fnExactNearestToRow : OpenClaim := { program := "ytpcjecahplglfaa", sum := "a3d6579d5fe8241d1c3d7701d5cc2c99da856c9986c1aa80848b7043b265cd90", func := "loop.example/shatteredsets/laws.FnExactNearestTo", spec := "fnExactNearestTo", unfollowed := true, recurses := true, apart := false }
def FnExactNearestToSaid : Prop := fnExactNearestToRow.holds Try.pinned (OpenSpec.ofChange fnExactNearestToSpec)

/-- ITS FALSE NEIGHBOUR: 'it returns false'. Refute it at one input. -/
def fnExactNearestToWrong : ChangeSpec := { name := "fnExactNearestTo", fn := fun _ => fun
  | [d1, d2] => { results := [.lit (.bool false)], args := [d1, d2] }
  | _ => none }
def FnExactNearestToWrongFalsely : Prop := fnExactNearestToRow.holds Try.pinned (OpenSpec.ofChange fnExactNearestToWrong)

/-- 'laws.FnNearestTo': WHATEVER THE INPUT: true; the input reads as it did. -/
def fnNearestToSpec : ChangeSpec := { name := "fnNearestTo", fn := fun _ => fun
  | [d] => { results := [.lit (.bool true)], args := [d] }
  | _ => none }
def fnNearestToRow : OpenClaim := { program := "ytpcjecahplglfaa", sum := "a3d6579d5fe8241d1c3d7701d5cc2c99da856c9986c1aa80848b7043b265cd90", func := "loop.example/shatteredsets/laws.FnNearestTo", spec := "fnNearestTo", unfollowed := true, recurses := true, apart := false }
def FnNearestToSaid : Prop := fnNearestToRow.holds Try.pinned (OpenSpec.ofChange fnNearestToSpec)

/-- ITS FALSE NEIGHBOUR: 'it returns false'. Refute it at one input. -/
def fnNearestToWrong : ChangeSpec := { name := "fnNearestTo", fn := fun _ => fun
  | [d] => { results := [.lit (.bool false)], args := [d] }
  | _ => none }
def FnNearestToWrongFalsely : Prop := fnNearestToRow.holds Try.pinned (OpenSpec.ofChange fnNearestToWrong)

/-- 'laws.FnExactCoverRadius': WHATEVER THE INPUT: true; the input reads as it did. -/
def fnExactCoverRadiusSpec : ChangeSpec := { name := "fnExactCoverRadius", fn := fun _ => fun
  | [d] => { results := [.lit (.bool true)], args := [d] }
  | _ => none }
def fnExactCoverRadiusRow : OpenClaim := { program := "ytpcjecahplglfaa", sum := "a3d6579d5fe8241d1c3d7701d5cc2c99da856c9986c1aa80848b7043b265cd90", func := "loop.example/shatteredsets/laws.FnExactCoverRadius", spec := "fnExactCoverRadius", unfollowed := true, recurses := true, apart := false }
def FnExactCoverRadiusSaid : Prop := fnExactCoverRadiusRow.holds Try.pinned (OpenSpec.ofChange fnExactCoverRadiusSpec)

/-- ITS FALSE NEIGHBOUR: 'it returns false'. Refute it at one input. -/
def fnExactCoverRadiusWrong : ChangeSpec := { name := "fnExactCoverRadius", fn := fun _ => fun
  | [d] => { results := [.lit (.bool false)], args := [d] }
  | _ => none }
def FnExactCoverRadiusWrongFalsely : Prop := fnExactCoverRadiusRow.holds Try.pinned (OpenSpec.ofChange fnExactCoverRadiusWrong)

/-- 'laws.FnCoverRadius': WHATEVER THE INPUT: true; the input reads as it did. -/
def fnCoverRadiusSpec : ChangeSpec := { name := "fnCoverRadius", fn := fun _ => fun
  | [d] => { results := [.lit (.bool true)], args := [d] }
  | _ => none }
def fnCoverRadiusRow : OpenClaim := { program := "ytpcjecahplglfaa", sum := "a3d6579d5fe8241d1c3d7701d5cc2c99da856c9986c1aa80848b7043b265cd90", func := "loop.example/shatteredsets/laws.FnCoverRadius", spec := "fnCoverRadius", unfollowed := true, recurses := true, apart := false }
def FnCoverRadiusSaid : Prop := fnCoverRadiusRow.holds Try.pinned (OpenSpec.ofChange fnCoverRadiusSpec)

/-- ITS FALSE NEIGHBOUR: 'it returns false'. Refute it at one input. -/
def fnCoverRadiusWrong : ChangeSpec := { name := "fnCoverRadius", fn := fun _ => fun
  | [d] => { results := [.lit (.bool false)], args := [d] }
  | _ => none }
def FnCoverRadiusWrongFalsely : Prop := fnCoverRadiusRow.holds Try.pinned (OpenSpec.ofChange fnCoverRadiusWrong)

/-- 'laws.FnExactNoiseSum': WHATEVER THE INPUT: true; the input reads as it did. -/
def fnExactNoiseSumSpec : ChangeSpec := { name := "fnExactNoiseSum", fn := fun _ => fun
  | [d] => { results := [.lit (.bool true)], args := [d] }
  | _ => none }
def fnExactNoiseSumRow : OpenClaim := { program := "ytpcjecahplglfaa", sum := "a3d6579d5fe8241d1c3d7701d5cc2c99da856c9986c1aa80848b7043b265cd90", func := "loop.example/shatteredsets/laws.FnExactNoiseSum", spec := "fnExactNoiseSum", unfollowed := true, recurses := true, apart := false }
def FnExactNoiseSumSaid : Prop := fnExactNoiseSumRow.holds Try.pinned (OpenSpec.ofChange fnExactNoiseSumSpec)

/-- ITS FALSE NEIGHBOUR: 'it returns false'. Refute it at one input. -/
def fnExactNoiseSumWrong : ChangeSpec := { name := "fnExactNoiseSum", fn := fun _ => fun
  | [d] => { results := [.lit (.bool false)], args := [d] }
  | _ => none }
def FnExactNoiseSumWrongFalsely : Prop := fnExactNoiseSumRow.holds Try.pinned (OpenSpec.ofChange fnExactNoiseSumWrong)

/-- 'laws.FnNoiseSum': WHATEVER THE INPUT: true; the input reads as it did. -/
def fnNoiseSumSpec : ChangeSpec := { name := "fnNoiseSum", fn := fun _ => fun
  | [d] => { results := [.lit (.bool true)], args := [d] }
  | _ => none }
def fnNoiseSumRow : OpenClaim := { program := "ytpcjecahplglfaa", sum := "a3d6579d5fe8241d1c3d7701d5cc2c99da856c9986c1aa80848b7043b265cd90", func := "loop.example/shatteredsets/laws.FnNoiseSum", spec := "fnNoiseSum", unfollowed := true, recurses := true, apart := false }
def FnNoiseSumSaid : Prop := fnNoiseSumRow.holds Try.pinned (OpenSpec.ofChange fnNoiseSumSpec)

/-- ITS FALSE NEIGHBOUR: 'it returns false'. Refute it at one input. -/
def fnNoiseSumWrong : ChangeSpec := { name := "fnNoiseSum", fn := fun _ => fun
  | [d] => { results := [.lit (.bool false)], args := [d] }
  | _ => none }
def FnNoiseSumWrongFalsely : Prop := fnNoiseSumRow.holds Try.pinned (OpenSpec.ofChange fnNoiseSumWrong)

/-- 'laws.FnExactRiskOf': WHATEVER THE INPUT: true; the input reads as it did. -/
def fnExactRiskOfSpec : ChangeSpec := { name := "fnExactRiskOf", fn := fun _ => fun
  | [d1, d2, d3] => { results := [.lit (.bool true)], args := [d1, d2, d3] }
  | _ => none }
def fnExactRiskOfRow : OpenClaim := { program := "ytpcjecahplglfaa", sum := "a3d6579d5fe8241d1c3d7701d5cc2c99da856c9986c1aa80848b7043b265cd90", func := "loop.example/shatteredsets/laws.FnExactRiskOf", spec := "fnExactRiskOf", unfollowed := true, recurses := true, apart := false }
def FnExactRiskOfSaid : Prop := fnExactRiskOfRow.holds Try.pinned (OpenSpec.ofChange fnExactRiskOfSpec)

/-- ITS FALSE NEIGHBOUR: 'it returns false'. Refute it at one input. -/
def fnExactRiskOfWrong : ChangeSpec := { name := "fnExactRiskOf", fn := fun _ => fun
  | [d1, d2, d3] => { results := [.lit (.bool false)], args := [d1, d2, d3] }
  | _ => none }
def FnExactRiskOfWrongFalsely : Prop := fnExactRiskOfRow.holds Try.pinned (OpenSpec.ofChange fnExactRiskOfWrong)

/-- 'laws.FnRiskOf': WHATEVER THE INPUT: true; the input reads as it did. -/
def fnRiskOfSpec : ChangeSpec := { name := "fnRiskOf", fn := fun _ => fun
  | [d] => { results := [.lit (.bool true)], args := [d] }
  | _ => none }
def fnRiskOfRow : OpenClaim := { program := "ytpcjecahplglfaa", sum := "a3d6579d5fe8241d1c3d7701d5cc2c99da856c9986c1aa80848b7043b265cd90", func := "loop.example/shatteredsets/laws.FnRiskOf", spec := "fnRiskOf", unfollowed := true, recurses := true, apart := false }
def FnRiskOfSaid : Prop := fnRiskOfRow.holds Try.pinned (OpenSpec.ofChange fnRiskOfSpec)

/-- ITS FALSE NEIGHBOUR: 'it returns false'. Refute it at one input. -/
def fnRiskOfWrong : ChangeSpec := { name := "fnRiskOf", fn := fun _ => fun
  | [d] => { results := [.lit (.bool false)], args := [d] }
  | _ => none }
def FnRiskOfWrongFalsely : Prop := fnRiskOfRow.holds Try.pinned (OpenSpec.ofChange fnRiskOfWrong)

/-- 'laws.FnExactBestOf': WHATEVER THE INPUT: true; the input reads as it did. -/
def fnExactBestOfSpec : ChangeSpec := { name := "fnExactBestOf", fn := fun _ => fun
  | [d1, d2] => { results := [.lit (.bool true)], args := [d1, d2] }
  | _ => none }
def fnExactBestOfRow : OpenClaim := { program := "ytpcjecahplglfaa", sum := "a3d6579d5fe8241d1c3d7701d5cc2c99da856c9986c1aa80848b7043b265cd90", func := "loop.example/shatteredsets/laws.FnExactBestOf", spec := "fnExactBestOf", unfollowed := true, recurses := true, apart := false }
def FnExactBestOfSaid : Prop := fnExactBestOfRow.holds Try.pinned (OpenSpec.ofChange fnExactBestOfSpec)

/-- ITS FALSE NEIGHBOUR: 'it returns false'. Refute it at one input. -/
def fnExactBestOfWrong : ChangeSpec := { name := "fnExactBestOf", fn := fun _ => fun
  | [d1, d2] => { results := [.lit (.bool false)], args := [d1, d2] }
  | _ => none }
def FnExactBestOfWrongFalsely : Prop := fnExactBestOfRow.holds Try.pinned (OpenSpec.ofChange fnExactBestOfWrong)

/- THE SECOND FORM. 'bulk': how many values and letters a reading holds, each counted each time it is reached (what is shared counts as often as it is met; a slice's spare places count too). A statement '..UptoSaid' is the law's where the arguments, and the package variables that the reading takes, are together of bulk at most 1048576: NARROWER than '..Said'. Prove '..Said' where nothing that the law and all that it calls make is longer than what came in: it says more and counts as full. Else prove '..UptoSaid'. A law counts once. -/
mutual
def uptoBulk {H : Type} : DataW H → Nat
  | .lit (.string bytes) => bytes.length + 1
  | .lit _ => 1
  | .nil => 1
  | .ptr d => uptoBulk d + 1
  | .slice elems spare => uptoBulkAll elems + uptoBulkAll spare + 1
  | .agg parts => uptoBulkAll parts + 1
  | .iface _ d => uptoBulk d + 1
  | .map entries => uptoBulkEntries entries + 1
  | .held _ => 1
def uptoBulkAll {H : Type} : List (DataW H) → Nat
  | [] => 0
  | d :: r => uptoBulk d + uptoBulkAll r
def uptoBulkEntries {H : Type} : List (Lit × DataW H) → Nat
  | [] => 0
  | x :: r => uptoBulkEntry x + uptoBulkEntries r
def uptoBulkEntry {H : Type} : Lit × DataW H → Nat
  | (.string bytes, d) => bytes.length + uptoBulk d + 1
  | (_, d) => uptoBulk d + 1
 end
def uptoSmall : (H : Type) → List (DataW H) → Bool := fun _ ds => decide (uptoBulkAll ds ≤ 1048576)
def OpenSpec.upto (s : _root_.Go.ChangeSpec) : _root_.Go.OpenSpec := { _root_.Go.OpenSpec.ofChange s with cond := some uptoSmall }

/-- 'laws.FnExactNearestTo', WHERE WHAT IT READS IS OF BULK AT MOST 1048576: true; the input reads as it did. -/
def fnExactNearestToUptoRow : OpenClaim := { program := "ytpcjecahplglfaa", sum := "a3d6579d5fe8241d1c3d7701d5cc2c99da856c9986c1aa80848b7043b265cd90", func := "loop.example/shatteredsets/laws.FnExactNearestTo", spec := "fnExactNearestTo", unfollowed := true, recurses := true, apart := false, narrowed := true }
def FnExactNearestToUptoSaid : Prop := fnExactNearestToUptoRow.holds Try.pinned (OpenSpec.upto fnExactNearestToSpec)

/-- 'laws.FnNearestTo', WHERE WHAT IT READS IS OF BULK AT MOST 1048576: true; the input reads as it did. -/
def fnNearestToUptoRow : OpenClaim := { program := "ytpcjecahplglfaa", sum := "a3d6579d5fe8241d1c3d7701d5cc2c99da856c9986c1aa80848b7043b265cd90", func := "loop.example/shatteredsets/laws.FnNearestTo", spec := "fnNearestTo", unfollowed := true, recurses := true, apart := false, narrowed := true }
def FnNearestToUptoSaid : Prop := fnNearestToUptoRow.holds Try.pinned (OpenSpec.upto fnNearestToSpec)

/-- 'laws.FnExactCoverRadius', WHERE WHAT IT READS IS OF BULK AT MOST 1048576: true; the input reads as it did. -/
def fnExactCoverRadiusUptoRow : OpenClaim := { program := "ytpcjecahplglfaa", sum := "a3d6579d5fe8241d1c3d7701d5cc2c99da856c9986c1aa80848b7043b265cd90", func := "loop.example/shatteredsets/laws.FnExactCoverRadius", spec := "fnExactCoverRadius", unfollowed := true, recurses := true, apart := false, narrowed := true }
def FnExactCoverRadiusUptoSaid : Prop := fnExactCoverRadiusUptoRow.holds Try.pinned (OpenSpec.upto fnExactCoverRadiusSpec)

/-- 'laws.FnCoverRadius', WHERE WHAT IT READS IS OF BULK AT MOST 1048576: true; the input reads as it did. -/
def fnCoverRadiusUptoRow : OpenClaim := { program := "ytpcjecahplglfaa", sum := "a3d6579d5fe8241d1c3d7701d5cc2c99da856c9986c1aa80848b7043b265cd90", func := "loop.example/shatteredsets/laws.FnCoverRadius", spec := "fnCoverRadius", unfollowed := true, recurses := true, apart := false, narrowed := true }
def FnCoverRadiusUptoSaid : Prop := fnCoverRadiusUptoRow.holds Try.pinned (OpenSpec.upto fnCoverRadiusSpec)

/-- 'laws.FnExactNoiseSum', WHERE WHAT IT READS IS OF BULK AT MOST 1048576: true; the input reads as it did. -/
def fnExactNoiseSumUptoRow : OpenClaim := { program := "ytpcjecahplglfaa", sum := "a3d6579d5fe8241d1c3d7701d5cc2c99da856c9986c1aa80848b7043b265cd90", func := "loop.example/shatteredsets/laws.FnExactNoiseSum", spec := "fnExactNoiseSum", unfollowed := true, recurses := true, apart := false, narrowed := true }
def FnExactNoiseSumUptoSaid : Prop := fnExactNoiseSumUptoRow.holds Try.pinned (OpenSpec.upto fnExactNoiseSumSpec)

/-- 'laws.FnNoiseSum', WHERE WHAT IT READS IS OF BULK AT MOST 1048576: true; the input reads as it did. -/
def fnNoiseSumUptoRow : OpenClaim := { program := "ytpcjecahplglfaa", sum := "a3d6579d5fe8241d1c3d7701d5cc2c99da856c9986c1aa80848b7043b265cd90", func := "loop.example/shatteredsets/laws.FnNoiseSum", spec := "fnNoiseSum", unfollowed := true, recurses := true, apart := false, narrowed := true }
def FnNoiseSumUptoSaid : Prop := fnNoiseSumUptoRow.holds Try.pinned (OpenSpec.upto fnNoiseSumSpec)

/-- 'laws.FnExactRiskOf', WHERE WHAT IT READS IS OF BULK AT MOST 1048576: true; the input reads as it did. -/
def fnExactRiskOfUptoRow : OpenClaim := { program := "ytpcjecahplglfaa", sum := "a3d6579d5fe8241d1c3d7701d5cc2c99da856c9986c1aa80848b7043b265cd90", func := "loop.example/shatteredsets/laws.FnExactRiskOf", spec := "fnExactRiskOf", unfollowed := true, recurses := true, apart := false, narrowed := true }
def FnExactRiskOfUptoSaid : Prop := fnExactRiskOfUptoRow.holds Try.pinned (OpenSpec.upto fnExactRiskOfSpec)

/-- 'laws.FnRiskOf', WHERE WHAT IT READS IS OF BULK AT MOST 1048576: true; the input reads as it did. -/
def fnRiskOfUptoRow : OpenClaim := { program := "ytpcjecahplglfaa", sum := "a3d6579d5fe8241d1c3d7701d5cc2c99da856c9986c1aa80848b7043b265cd90", func := "loop.example/shatteredsets/laws.FnRiskOf", spec := "fnRiskOf", unfollowed := true, recurses := true, apart := false, narrowed := true }
def FnRiskOfUptoSaid : Prop := fnRiskOfUptoRow.holds Try.pinned (OpenSpec.upto fnRiskOfSpec)

/-- 'laws.FnExactBestOf', WHERE WHAT IT READS IS OF BULK AT MOST 1048576: true; the input reads as it did. -/
def fnExactBestOfUptoRow : OpenClaim := { program := "ytpcjecahplglfaa", sum := "a3d6579d5fe8241d1c3d7701d5cc2c99da856c9986c1aa80848b7043b265cd90", func := "loop.example/shatteredsets/laws.FnExactBestOf", spec := "fnExactBestOf", unfollowed := true, recurses := true, apart := false, narrowed := true }
def FnExactBestOfUptoSaid : Prop := fnExactBestOfUptoRow.holds Try.pinned (OpenSpec.upto fnExactBestOfSpec)

end Rows
end Go.Proofs.Ytpcjecahplglfaa
