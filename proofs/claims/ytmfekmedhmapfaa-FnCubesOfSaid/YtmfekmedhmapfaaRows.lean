/-
  No cell of these rows narrows 'for every input' (looked for: loops, veiled, ifaces, maps, wideKeys, modest, calm, conditions, laid).
  DERIVED. THE GIVEN ROWS OF THIS SEAT. 7 by the template 'for every input the law returns true; each argument reads behind the call as it read before'; 0 by the template 'total and deterministic' (their statements: YtmfekmedhmapfaaTotals.lean).
  GIVEN WITH THE SEED: the statements are not yours to turn. If you find one false, say at which input.
  Laid BY PROGRAM, IN A SANDBOX (cutbox-rows.mjs): the forced cells as the released guide's own fill.sh prints them over the translation af4a64931170135f… (all of the seat's roots in one cut). By AI agents, Wed Nov 11 2026. No macro, syntax, notation, axiom, sorry.
-/
import Derived.Test.YtmfekmedhmapfaaChecked
import GoSem.Claim
import GoSem.ClaimJoined
import GoSem.ClaimMapViews
import Derived.JoinedTies
import Derived.KernelRfl
namespace Go.Proofs.Ytmfekmedhmapfaa
/- THE CELL 'sum', in the pinned program and in every row, IS THE sha256 OF THE DUMP (.gsa) THAT YtmfekmedhmapfaaProg.lean LOADS. Nothing in Lean hashes anything: it is a label: what it is worth is what the hold of that sum in a sandbox is worth. -/
noncomputable def Try.pinned : Pinned := { name := "ytmfekmedhmapfaa", sum := "af4a64931170135f8d5a84628b84976217e9965b5e55515631c0c5f071478f76", checked := Try.checked }
namespace Rows
def none {H : Type} : Left H := { results := [], args := [] }

/-- 'laws.FnCubesOf': WHATEVER THE INPUT: true; the input reads as it did. -/
def fnCubesOfSpec : ChangeSpec := { name := "fnCubesOf", fn := fun _ => fun
  | [d] => { results := [.lit (.bool true)], args := [d] }
  | _ => none }
def fnCubesOfRow : OpenClaim := { program := "ytmfekmedhmapfaa", sum := "af4a64931170135f8d5a84628b84976217e9965b5e55515631c0c5f071478f76", func := "loop.example/shatteredsets/laws.FnCubesOf", spec := "fnCubesOf", unfollowed := true, recurses := true, apart := false }
def FnCubesOfSaid : Prop := fnCubesOfRow.holds Try.pinned (OpenSpec.ofChange fnCubesOfSpec)

/-- ITS FALSE NEIGHBOUR: 'it returns false'. Refute it at one input. -/
def fnCubesOfWrong : ChangeSpec := { name := "fnCubesOf", fn := fun _ => fun
  | [d] => { results := [.lit (.bool false)], args := [d] }
  | _ => none }
def FnCubesOfWrongFalsely : Prop := fnCubesOfRow.holds Try.pinned (OpenSpec.ofChange fnCubesOfWrong)

/-- 'laws.FnDualClass': WHATEVER THE INPUT: true; the input reads as it did. -/
def fnDualClassSpec : ChangeSpec := { name := "fnDualClass", fn := fun _ => fun
  | [d] => { results := [.lit (.bool true)], args := [d] }
  | _ => none }
def fnDualClassRow : OpenClaim := { program := "ytmfekmedhmapfaa", sum := "af4a64931170135f8d5a84628b84976217e9965b5e55515631c0c5f071478f76", func := "loop.example/shatteredsets/laws.FnDualClass", spec := "fnDualClass", unfollowed := true, recurses := true, apart := false }
def FnDualClassSaid : Prop := fnDualClassRow.holds Try.pinned (OpenSpec.ofChange fnDualClassSpec)

/-- ITS FALSE NEIGHBOUR: 'it returns false'. Refute it at one input. -/
def fnDualClassWrong : ChangeSpec := { name := "fnDualClass", fn := fun _ => fun
  | [d] => { results := [.lit (.bool false)], args := [d] }
  | _ => none }
def FnDualClassWrongFalsely : Prop := fnDualClassRow.holds Try.pinned (OpenSpec.ofChange fnDualClassWrong)

/-- 'laws.FnExactPackDistance': WHATEVER THE INPUT: true; the input reads as it did. -/
def fnExactPackDistanceSpec : ChangeSpec := { name := "fnExactPackDistance", fn := fun _ => fun
  | [d] => { results := [.lit (.bool true)], args := [d] }
  | _ => none }
def fnExactPackDistanceRow : OpenClaim := { program := "ytmfekmedhmapfaa", sum := "af4a64931170135f8d5a84628b84976217e9965b5e55515631c0c5f071478f76", func := "loop.example/shatteredsets/laws.FnExactPackDistance", spec := "fnExactPackDistance", apart := false }
def FnExactPackDistanceSaid : Prop := fnExactPackDistanceRow.holds Try.pinned (OpenSpec.ofChange fnExactPackDistanceSpec)

/-- ITS FALSE NEIGHBOUR: 'it returns false'. Refute it at one input. -/
def fnExactPackDistanceWrong : ChangeSpec := { name := "fnExactPackDistance", fn := fun _ => fun
  | [d] => { results := [.lit (.bool false)], args := [d] }
  | _ => none }
def FnExactPackDistanceWrongFalsely : Prop := fnExactPackDistanceRow.holds Try.pinned (OpenSpec.ofChange fnExactPackDistanceWrong)

/-- 'laws.FnExactEdgesOf': WHATEVER THE INPUT: true; the input reads as it did. -/
def fnExactEdgesOfSpec : ChangeSpec := { name := "fnExactEdgesOf", fn := fun _ => fun
  | [d] => { results := [.lit (.bool true)], args := [d] }
  | _ => none }
def fnExactEdgesOfRow : OpenClaim := { program := "ytmfekmedhmapfaa", sum := "af4a64931170135f8d5a84628b84976217e9965b5e55515631c0c5f071478f76", func := "loop.example/shatteredsets/laws.FnExactEdgesOf", spec := "fnExactEdgesOf", apart := false }
def FnExactEdgesOfSaid : Prop := fnExactEdgesOfRow.holds Try.pinned (OpenSpec.ofChange fnExactEdgesOfSpec)

/-- ITS FALSE NEIGHBOUR: 'it returns false'. Refute it at one input. -/
def fnExactEdgesOfWrong : ChangeSpec := { name := "fnExactEdgesOf", fn := fun _ => fun
  | [d] => { results := [.lit (.bool false)], args := [d] }
  | _ => none }
def FnExactEdgesOfWrongFalsely : Prop := fnExactEdgesOfRow.holds Try.pinned (OpenSpec.ofChange fnExactEdgesOfWrong)

/-- 'laws.FnLinkOf': WHATEVER THE INPUT: true; the input reads as it did. -/
def fnLinkOfSpec : ChangeSpec := { name := "fnLinkOf", fn := fun _ => fun
  | [d] => { results := [.lit (.bool true)], args := [d] }
  | _ => none }
def fnLinkOfRow : OpenClaim := { program := "ytmfekmedhmapfaa", sum := "af4a64931170135f8d5a84628b84976217e9965b5e55515631c0c5f071478f76", func := "loop.example/shatteredsets/laws.FnLinkOf", spec := "fnLinkOf", unfollowed := true, recurses := true, apart := false }
def FnLinkOfSaid : Prop := fnLinkOfRow.holds Try.pinned (OpenSpec.ofChange fnLinkOfSpec)

/-- ITS FALSE NEIGHBOUR: 'it returns false'. Refute it at one input. -/
def fnLinkOfWrong : ChangeSpec := { name := "fnLinkOf", fn := fun _ => fun
  | [d] => { results := [.lit (.bool false)], args := [d] }
  | _ => none }
def FnLinkOfWrongFalsely : Prop := fnLinkOfRow.holds Try.pinned (OpenSpec.ofChange fnLinkOfWrong)

/-- 'laws.FnPackDistance': WHATEVER THE INPUT: true; the input reads as it did. -/
def fnPackDistanceSpec : ChangeSpec := { name := "fnPackDistance", fn := fun _ => fun
  | [d] => { results := [.lit (.bool true)], args := [d] }
  | _ => none }
def fnPackDistanceRow : OpenClaim := { program := "ytmfekmedhmapfaa", sum := "af4a64931170135f8d5a84628b84976217e9965b5e55515631c0c5f071478f76", func := "loop.example/shatteredsets/laws.FnPackDistance", spec := "fnPackDistance", apart := false }
def FnPackDistanceSaid : Prop := fnPackDistanceRow.holds Try.pinned (OpenSpec.ofChange fnPackDistanceSpec)

/-- ITS FALSE NEIGHBOUR: 'it returns false'. Refute it at one input. -/
def fnPackDistanceWrong : ChangeSpec := { name := "fnPackDistance", fn := fun _ => fun
  | [d] => { results := [.lit (.bool false)], args := [d] }
  | _ => none }
def FnPackDistanceWrongFalsely : Prop := fnPackDistanceRow.holds Try.pinned (OpenSpec.ofChange fnPackDistanceWrong)

/-- 'laws.FnCubeCounts': WHATEVER THE INPUT: true; the input reads as it did. -/
def fnCubeCountsSpec : ChangeSpec := { name := "fnCubeCounts", fn := fun _ => fun
  | [d] => { results := [.lit (.bool true)], args := [d] }
  | _ => none }
def fnCubeCountsRow : OpenClaim := { program := "ytmfekmedhmapfaa", sum := "af4a64931170135f8d5a84628b84976217e9965b5e55515631c0c5f071478f76", func := "loop.example/shatteredsets/laws.FnCubeCounts", spec := "fnCubeCounts", apart := false }
def FnCubeCountsSaid : Prop := fnCubeCountsRow.holds Try.pinned (OpenSpec.ofChange fnCubeCountsSpec)

/-- ITS FALSE NEIGHBOUR: 'it returns false'. Refute it at one input. -/
def fnCubeCountsWrong : ChangeSpec := { name := "fnCubeCounts", fn := fun _ => fun
  | [d] => { results := [.lit (.bool false)], args := [d] }
  | _ => none }
def FnCubeCountsWrongFalsely : Prop := fnCubeCountsRow.holds Try.pinned (OpenSpec.ofChange fnCubeCountsWrong)

/- THE SECOND FORM. 'bulk': how many values and letters a reading holds, each counted each time it is reached (what is shared counts as often as it is met; a slice's spare places count too). A statement '..UptoSaid' is the law's where the arguments, and the package variables that the reading takes, are together of bulk at most 1048576: NARROWER than '..Said'. Prove '..Said' where nothing that the law and all that it calls make is longer than what came in: it says more and counts as full. Else prove '..UptoSaid'. A law counts once. -/
mutual
def uptoBulk {H : Type} : DataW H → Nat
  | .lit (.string bytes) => bytes.length + 1
  | .lit _ => 1
  | .nil => 1
  | .ptr d => uptoBulk d + 1
  | .slice elems spare => uptoBulkAll elems + uptoBulkAll spare + 1
  | .agg parts => uptoBulkAll parts + 1
  | .iface _ d => uptoBulk d + 1
  | .map entries => uptoBulkEntries entries + 1
  | .held _ => 1
def uptoBulkAll {H : Type} : List (DataW H) → Nat
  | [] => 0
  | d :: r => uptoBulk d + uptoBulkAll r
def uptoBulkEntries {H : Type} : List (Lit × DataW H) → Nat
  | [] => 0
  | x :: r => uptoBulkEntry x + uptoBulkEntries r
def uptoBulkEntry {H : Type} : Lit × DataW H → Nat
  | (.string bytes, d) => bytes.length + uptoBulk d + 1
  | (_, d) => uptoBulk d + 1
 end
def uptoSmall : (H : Type) → List (DataW H) → Bool := fun _ ds => decide (uptoBulkAll ds ≤ 1048576)
def OpenSpec.upto (s : _root_.Go.ChangeSpec) : _root_.Go.OpenSpec := { _root_.Go.OpenSpec.ofChange s with cond := some uptoSmall }

/-- 'laws.FnCubesOf', WHERE WHAT IT READS IS OF BULK AT MOST 1048576: true; the input reads as it did. -/
def fnCubesOfUptoRow : OpenClaim := { program := "ytmfekmedhmapfaa", sum := "af4a64931170135f8d5a84628b84976217e9965b5e55515631c0c5f071478f76", func := "loop.example/shatteredsets/laws.FnCubesOf", spec := "fnCubesOf", unfollowed := true, recurses := true, apart := false, narrowed := true }
def FnCubesOfUptoSaid : Prop := fnCubesOfUptoRow.holds Try.pinned (OpenSpec.upto fnCubesOfSpec)

/-- 'laws.FnDualClass', WHERE WHAT IT READS IS OF BULK AT MOST 1048576: true; the input reads as it did. -/
def fnDualClassUptoRow : OpenClaim := { program := "ytmfekmedhmapfaa", sum := "af4a64931170135f8d5a84628b84976217e9965b5e55515631c0c5f071478f76", func := "loop.example/shatteredsets/laws.FnDualClass", spec := "fnDualClass", unfollowed := true, recurses := true, apart := false, narrowed := true }
def FnDualClassUptoSaid : Prop := fnDualClassUptoRow.holds Try.pinned (OpenSpec.upto fnDualClassSpec)

/-- 'laws.FnExactPackDistance', WHERE WHAT IT READS IS OF BULK AT MOST 1048576: true; the input reads as it did. -/
def fnExactPackDistanceUptoRow : OpenClaim := { program := "ytmfekmedhmapfaa", sum := "af4a64931170135f8d5a84628b84976217e9965b5e55515631c0c5f071478f76", func := "loop.example/shatteredsets/laws.FnExactPackDistance", spec := "fnExactPackDistance", apart := false, narrowed := true }
def FnExactPackDistanceUptoSaid : Prop := fnExactPackDistanceUptoRow.holds Try.pinned (OpenSpec.upto fnExactPackDistanceSpec)

/-- 'laws.FnExactEdgesOf', WHERE WHAT IT READS IS OF BULK AT MOST 1048576: true; the input reads as it did. -/
def fnExactEdgesOfUptoRow : OpenClaim := { program := "ytmfekmedhmapfaa", sum := "af4a64931170135f8d5a84628b84976217e9965b5e55515631c0c5f071478f76", func := "loop.example/shatteredsets/laws.FnExactEdgesOf", spec := "fnExactEdgesOf", apart := false, narrowed := true }
def FnExactEdgesOfUptoSaid : Prop := fnExactEdgesOfUptoRow.holds Try.pinned (OpenSpec.upto fnExactEdgesOfSpec)

/-- 'laws.FnLinkOf', WHERE WHAT IT READS IS OF BULK AT MOST 1048576: true; the input reads as it did. -/
def fnLinkOfUptoRow : OpenClaim := { program := "ytmfekmedhmapfaa", sum := "af4a64931170135f8d5a84628b84976217e9965b5e55515631c0c5f071478f76", func := "loop.example/shatteredsets/laws.FnLinkOf", spec := "fnLinkOf", unfollowed := true, recurses := true, apart := false, narrowed := true }
def FnLinkOfUptoSaid : Prop := fnLinkOfUptoRow.holds Try.pinned (OpenSpec.upto fnLinkOfSpec)

/-- 'laws.FnPackDistance', WHERE WHAT IT READS IS OF BULK AT MOST 1048576: true; the input reads as it did. -/
def fnPackDistanceUptoRow : OpenClaim := { program := "ytmfekmedhmapfaa", sum := "af4a64931170135f8d5a84628b84976217e9965b5e55515631c0c5f071478f76", func := "loop.example/shatteredsets/laws.FnPackDistance", spec := "fnPackDistance", apart := false, narrowed := true }
def FnPackDistanceUptoSaid : Prop := fnPackDistanceUptoRow.holds Try.pinned (OpenSpec.upto fnPackDistanceSpec)

/-- 'laws.FnCubeCounts', WHERE WHAT IT READS IS OF BULK AT MOST 1048576: true; the input reads as it did. -/
def fnCubeCountsUptoRow : OpenClaim := { program := "ytmfekmedhmapfaa", sum := "af4a64931170135f8d5a84628b84976217e9965b5e55515631c0c5f071478f76", func := "loop.example/shatteredsets/laws.FnCubeCounts", spec := "fnCubeCounts", apart := false, narrowed := true }
def FnCubeCountsUptoSaid : Prop := fnCubeCountsUptoRow.holds Try.pinned (OpenSpec.upto fnCubeCountsSpec)

end Rows
end Go.Proofs.Ytmfekmedhmapfaa
