/-
  No cell of these rows narrows 'for every input' (looked for: loops, veiled, ifaces, maps, wideKeys, modest, calm, conditions, laid).
  DERIVED. THE GIVEN ROWS OF THIS SEAT. 10 by the template 'for every input the law returns true; each argument reads behind the call as it read before'; 0 by the template 'total and deterministic' (their statements: YtbjaacppomobeaaTotals.lean).
  GIVEN WITH THE SEED: the statements are not yours to turn. If you find one false, say at which input.
  Laid BY PROGRAM, IN A SANDBOX (cutbox-rows.mjs): the forced cells as the released guide's own fill.sh prints them over the translation 065cdd889d0bc77e… (all of the seat's roots in one cut). By AI agents, Wed Nov 11 2026. No macro, syntax, notation, axiom, sorry.
-/
import Derived.Test.YtbjaacppomobeaaChecked
import GoSem.Claim
import GoSem.ClaimJoined
import GoSem.ClaimMapViews
import Derived.JoinedTies
import Derived.KernelRfl
namespace Go.Proofs.Ytbjaacppomobeaa
/- THE CELL 'sum', in the pinned program and in every row, IS THE sha256 OF THE DUMP (.gsa) THAT YtbjaacppomobeaaProg.lean LOADS. Nothing in Lean hashes anything: it is a label: what it is worth is what the hold of that sum in a sandbox is worth. -/
noncomputable def Try.pinned : Pinned := { name := "ytbjaacppomobeaa", sum := "065cdd889d0bc77eac3ede8bb39d8f469c046f9ec8e3e711bf26f27c509447f3", checked := Try.checked }
namespace Rows
def none {H : Type} : Left H := { results := [], args := [] }

/-- 'laws.FnExactEdgesOf': WHATEVER THE INPUT: true; the input reads as it did. -/
def fnExactEdgesOfSpec : ChangeSpec := { name := "fnExactEdgesOf", fn := fun _ => fun
  | [d] => { results := [.lit (.bool true)], args := [d] }
  | _ => none }
def fnExactEdgesOfRow : OpenClaim := { program := "ytbjaacppomobeaa", sum := "065cdd889d0bc77eac3ede8bb39d8f469c046f9ec8e3e711bf26f27c509447f3", func := "loop.example/shatteredsets/laws.FnExactEdgesOf", spec := "fnExactEdgesOf", apart := false }
def FnExactEdgesOfSaid : Prop := fnExactEdgesOfRow.holds Try.pinned (OpenSpec.ofChange fnExactEdgesOfSpec)

/-- ITS FALSE NEIGHBOUR: 'it returns false'. Refute it at one input. -/
def fnExactEdgesOfWrong : ChangeSpec := { name := "fnExactEdgesOf", fn := fun _ => fun
  | [d] => { results := [.lit (.bool false)], args := [d] }
  | _ => none }
def FnExactEdgesOfWrongFalsely : Prop := fnExactEdgesOfRow.holds Try.pinned (OpenSpec.ofChange fnExactEdgesOfWrong)

/-- 'laws.FnEdgesOf': WHATEVER THE INPUT: true; the input reads as it did. -/
def fnEdgesOfSpec : ChangeSpec := { name := "fnEdgesOf", fn := fun _ => fun
  | [d] => { results := [.lit (.bool true)], args := [d] }
  | _ => none }
def fnEdgesOfRow : OpenClaim := { program := "ytbjaacppomobeaa", sum := "065cdd889d0bc77eac3ede8bb39d8f469c046f9ec8e3e711bf26f27c509447f3", func := "loop.example/shatteredsets/laws.FnEdgesOf", spec := "fnEdgesOf", unfollowed := true, recurses := true, apart := false }
def FnEdgesOfSaid : Prop := fnEdgesOfRow.holds Try.pinned (OpenSpec.ofChange fnEdgesOfSpec)

/-- ITS FALSE NEIGHBOUR: 'it returns false'. Refute it at one input. -/
def fnEdgesOfWrong : ChangeSpec := { name := "fnEdgesOf", fn := fun _ => fun
  | [d] => { results := [.lit (.bool false)], args := [d] }
  | _ => none }
def FnEdgesOfWrongFalsely : Prop := fnEdgesOfRow.holds Try.pinned (OpenSpec.ofChange fnEdgesOfWrong)

/-- 'laws.FnShiftClass': WHATEVER THE INPUT: true; the input reads as it did. -/
def fnShiftClassSpec : ChangeSpec := { name := "fnShiftClass", fn := fun _ => fun
  | [d] => { results := [.lit (.bool true)], args := [d] }
  | _ => none }
def fnShiftClassRow : OpenClaim := { program := "ytbjaacppomobeaa", sum := "065cdd889d0bc77eac3ede8bb39d8f469c046f9ec8e3e711bf26f27c509447f3", func := "loop.example/shatteredsets/laws.FnShiftClass", spec := "fnShiftClass", unfollowed := true, recurses := true, apart := false }
def FnShiftClassSaid : Prop := fnShiftClassRow.holds Try.pinned (OpenSpec.ofChange fnShiftClassSpec)

/-- ITS FALSE NEIGHBOUR: 'it returns false'. Refute it at one input. -/
def fnShiftClassWrong : ChangeSpec := { name := "fnShiftClass", fn := fun _ => fun
  | [d] => { results := [.lit (.bool false)], args := [d] }
  | _ => none }
def FnShiftClassWrongFalsely : Prop := fnShiftClassRow.holds Try.pinned (OpenSpec.ofChange fnShiftClassWrong)

/-- 'laws.FnLinkOf': WHATEVER THE INPUT: true; the input reads as it did. -/
def fnLinkOfSpec : ChangeSpec := { name := "fnLinkOf", fn := fun _ => fun
  | [d] => { results := [.lit (.bool true)], args := [d] }
  | _ => none }
def fnLinkOfRow : OpenClaim := { program := "ytbjaacppomobeaa", sum := "065cdd889d0bc77eac3ede8bb39d8f469c046f9ec8e3e711bf26f27c509447f3", func := "loop.example/shatteredsets/laws.FnLinkOf", spec := "fnLinkOf", unfollowed := true, recurses := true, apart := false }
def FnLinkOfSaid : Prop := fnLinkOfRow.holds Try.pinned (OpenSpec.ofChange fnLinkOfSpec)

/-- ITS FALSE NEIGHBOUR: 'it returns false'. Refute it at one input. -/
def fnLinkOfWrong : ChangeSpec := { name := "fnLinkOf", fn := fun _ => fun
  | [d] => { results := [.lit (.bool false)], args := [d] }
  | _ => none }
def FnLinkOfWrongFalsely : Prop := fnLinkOfRow.holds Try.pinned (OpenSpec.ofChange fnLinkOfWrong)

/-- 'laws.FnPackDistance': WHATEVER THE INPUT: true; the input reads as it did. -/
def fnPackDistanceSpec : ChangeSpec := { name := "fnPackDistance", fn := fun _ => fun
  | [d] => { results := [.lit (.bool true)], args := [d] }
  | _ => none }
def fnPackDistanceRow : OpenClaim := { program := "ytbjaacppomobeaa", sum := "065cdd889d0bc77eac3ede8bb39d8f469c046f9ec8e3e711bf26f27c509447f3", func := "loop.example/shatteredsets/laws.FnPackDistance", spec := "fnPackDistance", apart := false }
def FnPackDistanceSaid : Prop := fnPackDistanceRow.holds Try.pinned (OpenSpec.ofChange fnPackDistanceSpec)

/-- ITS FALSE NEIGHBOUR: 'it returns false'. Refute it at one input. -/
def fnPackDistanceWrong : ChangeSpec := { name := "fnPackDistance", fn := fun _ => fun
  | [d] => { results := [.lit (.bool false)], args := [d] }
  | _ => none }
def FnPackDistanceWrongFalsely : Prop := fnPackDistanceRow.holds Try.pinned (OpenSpec.ofChange fnPackDistanceWrong)

/-- 'laws.FnCubeCounts': WHATEVER THE INPUT: true; the input reads as it did. -/
def fnCubeCountsSpec : ChangeSpec := { name := "fnCubeCounts", fn := fun _ => fun
  | [d] => { results := [.lit (.bool true)], args := [d] }
  | _ => none }
def fnCubeCountsRow : OpenClaim := { program := "ytbjaacppomobeaa", sum := "065cdd889d0bc77eac3ede8bb39d8f469c046f9ec8e3e711bf26f27c509447f3", func := "loop.example/shatteredsets/laws.FnCubeCounts", spec := "fnCubeCounts", apart := false }
def FnCubeCountsSaid : Prop := fnCubeCountsRow.holds Try.pinned (OpenSpec.ofChange fnCubeCountsSpec)

/-- ITS FALSE NEIGHBOUR: 'it returns false'. Refute it at one input. -/
def fnCubeCountsWrong : ChangeSpec := { name := "fnCubeCounts", fn := fun _ => fun
  | [d] => { results := [.lit (.bool false)], args := [d] }
  | _ => none }
def FnCubeCountsWrongFalsely : Prop := fnCubeCountsRow.holds Try.pinned (OpenSpec.ofChange fnCubeCountsWrong)

/-- 'laws.FnEulerOf': WHATEVER THE INPUT: true; the input reads as it did. -/
def fnEulerOfSpec : ChangeSpec := { name := "fnEulerOf", fn := fun _ => fun
  | [d] => { results := [.lit (.bool true)], args := [d] }
  | _ => none }
def fnEulerOfRow : OpenClaim := { program := "ytbjaacppomobeaa", sum := "065cdd889d0bc77eac3ede8bb39d8f469c046f9ec8e3e711bf26f27c509447f3", func := "loop.example/shatteredsets/laws.FnEulerOf", spec := "fnEulerOf", unfollowed := true, recurses := true, apart := false }
def FnEulerOfSaid : Prop := fnEulerOfRow.holds Try.pinned (OpenSpec.ofChange fnEulerOfSpec)

/-- ITS FALSE NEIGHBOUR: 'it returns false'. Refute it at one input. -/
def fnEulerOfWrong : ChangeSpec := { name := "fnEulerOf", fn := fun _ => fun
  | [d] => { results := [.lit (.bool false)], args := [d] }
  | _ => none }
def FnEulerOfWrongFalsely : Prop := fnEulerOfRow.holds Try.pinned (OpenSpec.ofChange fnEulerOfWrong)

/-- 'laws.FnExactDistanceIn': WHATEVER THE INPUT: true; the input reads as it did. -/
def fnExactDistanceInSpec : ChangeSpec := { name := "fnExactDistanceIn", fn := fun _ => fun
  | [d1, d2, d3] => { results := [.lit (.bool true)], args := [d1, d2, d3] }
  | _ => none }
def fnExactDistanceInRow : OpenClaim := { program := "ytbjaacppomobeaa", sum := "065cdd889d0bc77eac3ede8bb39d8f469c046f9ec8e3e711bf26f27c509447f3", func := "loop.example/shatteredsets/laws.FnExactDistanceIn", spec := "fnExactDistanceIn", apart := false }
def FnExactDistanceInSaid : Prop := fnExactDistanceInRow.holds Try.pinned (OpenSpec.ofChange fnExactDistanceInSpec)

/-- ITS FALSE NEIGHBOUR: 'it returns false'. Refute it at one input. -/
def fnExactDistanceInWrong : ChangeSpec := { name := "fnExactDistanceIn", fn := fun _ => fun
  | [d1, d2, d3] => { results := [.lit (.bool false)], args := [d1, d2, d3] }
  | _ => none }
def FnExactDistanceInWrongFalsely : Prop := fnExactDistanceInRow.holds Try.pinned (OpenSpec.ofChange fnExactDistanceInWrong)

/-- 'laws.FnExactComponentsOf': WHATEVER THE INPUT: true; the input reads as it did. -/
def fnExactComponentsOfSpec : ChangeSpec := { name := "fnExactComponentsOf", fn := fun _ => fun
  | [d] => { results := [.lit (.bool true)], args := [d] }
  | _ => none }
def fnExactComponentsOfRow : OpenClaim := { program := "ytbjaacppomobeaa", sum := "065cdd889d0bc77eac3ede8bb39d8f469c046f9ec8e3e711bf26f27c509447f3", func := "loop.example/shatteredsets/laws.FnExactComponentsOf", spec := "fnExactComponentsOf", apart := false }
def FnExactComponentsOfSaid : Prop := fnExactComponentsOfRow.holds Try.pinned (OpenSpec.ofChange fnExactComponentsOfSpec)

/-- ITS FALSE NEIGHBOUR: 'it returns false'. Refute it at one input. -/
def fnExactComponentsOfWrong : ChangeSpec := { name := "fnExactComponentsOf", fn := fun _ => fun
  | [d] => { results := [.lit (.bool false)], args := [d] }
  | _ => none }
def FnExactComponentsOfWrongFalsely : Prop := fnExactComponentsOfRow.holds Try.pinned (OpenSpec.ofChange fnExactComponentsOfWrong)

/-- 'laws.FnExactIsIsometric': WHATEVER THE INPUT: true; the input reads as it did. -/
def fnExactIsIsometricSpec : ChangeSpec := { name := "fnExactIsIsometric", fn := fun _ => fun
  | [d] => { results := [.lit (.bool true)], args := [d] }
  | _ => none }
def fnExactIsIsometricRow : OpenClaim := { program := "ytbjaacppomobeaa", sum := "065cdd889d0bc77eac3ede8bb39d8f469c046f9ec8e3e711bf26f27c509447f3", func := "loop.example/shatteredsets/laws.FnExactIsIsometric", spec := "fnExactIsIsometric", apart := false }
def FnExactIsIsometricSaid : Prop := fnExactIsIsometricRow.holds Try.pinned (OpenSpec.ofChange fnExactIsIsometricSpec)

/-- ITS FALSE NEIGHBOUR: 'it returns false'. Refute it at one input. -/
def fnExactIsIsometricWrong : ChangeSpec := { name := "fnExactIsIsometric", fn := fun _ => fun
  | [d] => { results := [.lit (.bool false)], args := [d] }
  | _ => none }
def FnExactIsIsometricWrongFalsely : Prop := fnExactIsIsometricRow.holds Try.pinned (OpenSpec.ofChange fnExactIsIsometricWrong)

/- THE SECOND FORM. 'bulk': how many values and letters a reading holds, each counted each time it is reached (what is shared counts as often as it is met; a slice's spare places count too). A statement '..UptoSaid' is the law's where the arguments, and the package variables that the reading takes, are together of bulk at most 1048576: NARROWER than '..Said'. Prove '..Said' where nothing that the law and all that it calls make is longer than what came in: it says more and counts as full. Else prove '..UptoSaid'. A law counts once. -/
mutual
def uptoBulk {H : Type} : DataW H → Nat
  | .lit (.string bytes) => bytes.length + 1
  | .lit _ => 1
  | .nil => 1
  | .ptr d => uptoBulk d + 1
  | .slice elems spare => uptoBulkAll elems + uptoBulkAll spare + 1
  | .agg parts => uptoBulkAll parts + 1
  | .iface _ d => uptoBulk d + 1
  | .map entries => uptoBulkEntries entries + 1
  | .held _ => 1
def uptoBulkAll {H : Type} : List (DataW H) → Nat
  | [] => 0
  | d :: r => uptoBulk d + uptoBulkAll r
def uptoBulkEntries {H : Type} : List (Lit × DataW H) → Nat
  | [] => 0
  | x :: r => uptoBulkEntry x + uptoBulkEntries r
def uptoBulkEntry {H : Type} : Lit × DataW H → Nat
  | (.string bytes, d) => bytes.length + uptoBulk d + 1
  | (_, d) => uptoBulk d + 1
 end
def uptoSmall : (H : Type) → List (DataW H) → Bool := fun _ ds => decide (uptoBulkAll ds ≤ 1048576)
def OpenSpec.upto (s : _root_.Go.ChangeSpec) : _root_.Go.OpenSpec := { _root_.Go.OpenSpec.ofChange s with cond := some uptoSmall }

/-- 'laws.FnExactEdgesOf', WHERE WHAT IT READS IS OF BULK AT MOST 1048576: true; the input reads as it did. -/
def fnExactEdgesOfUptoRow : OpenClaim := { program := "ytbjaacppomobeaa", sum := "065cdd889d0bc77eac3ede8bb39d8f469c046f9ec8e3e711bf26f27c509447f3", func := "loop.example/shatteredsets/laws.FnExactEdgesOf", spec := "fnExactEdgesOf", apart := false, narrowed := true }
def FnExactEdgesOfUptoSaid : Prop := fnExactEdgesOfUptoRow.holds Try.pinned (OpenSpec.upto fnExactEdgesOfSpec)

/-- 'laws.FnEdgesOf', WHERE WHAT IT READS IS OF BULK AT MOST 1048576: true; the input reads as it did. -/
def fnEdgesOfUptoRow : OpenClaim := { program := "ytbjaacppomobeaa", sum := "065cdd889d0bc77eac3ede8bb39d8f469c046f9ec8e3e711bf26f27c509447f3", func := "loop.example/shatteredsets/laws.FnEdgesOf", spec := "fnEdgesOf", unfollowed := true, recurses := true, apart := false, narrowed := true }
def FnEdgesOfUptoSaid : Prop := fnEdgesOfUptoRow.holds Try.pinned (OpenSpec.upto fnEdgesOfSpec)

/-- 'laws.FnShiftClass', WHERE WHAT IT READS IS OF BULK AT MOST 1048576: true; the input reads as it did. -/
def fnShiftClassUptoRow : OpenClaim := { program := "ytbjaacppomobeaa", sum := "065cdd889d0bc77eac3ede8bb39d8f469c046f9ec8e3e711bf26f27c509447f3", func := "loop.example/shatteredsets/laws.FnShiftClass", spec := "fnShiftClass", unfollowed := true, recurses := true, apart := false, narrowed := true }
def FnShiftClassUptoSaid : Prop := fnShiftClassUptoRow.holds Try.pinned (OpenSpec.upto fnShiftClassSpec)

/-- 'laws.FnLinkOf', WHERE WHAT IT READS IS OF BULK AT MOST 1048576: true; the input reads as it did. -/
def fnLinkOfUptoRow : OpenClaim := { program := "ytbjaacppomobeaa", sum := "065cdd889d0bc77eac3ede8bb39d8f469c046f9ec8e3e711bf26f27c509447f3", func := "loop.example/shatteredsets/laws.FnLinkOf", spec := "fnLinkOf", unfollowed := true, recurses := true, apart := false, narrowed := true }
def FnLinkOfUptoSaid : Prop := fnLinkOfUptoRow.holds Try.pinned (OpenSpec.upto fnLinkOfSpec)

/-- 'laws.FnPackDistance', WHERE WHAT IT READS IS OF BULK AT MOST 1048576: true; the input reads as it did. -/
def fnPackDistanceUptoRow : OpenClaim := { program := "ytbjaacppomobeaa", sum := "065cdd889d0bc77eac3ede8bb39d8f469c046f9ec8e3e711bf26f27c509447f3", func := "loop.example/shatteredsets/laws.FnPackDistance", spec := "fnPackDistance", apart := false, narrowed := true }
def FnPackDistanceUptoSaid : Prop := fnPackDistanceUptoRow.holds Try.pinned (OpenSpec.upto fnPackDistanceSpec)

/-- 'laws.FnCubeCounts', WHERE WHAT IT READS IS OF BULK AT MOST 1048576: true; the input reads as it did. -/
def fnCubeCountsUptoRow : OpenClaim := { program := "ytbjaacppomobeaa", sum := "065cdd889d0bc77eac3ede8bb39d8f469c046f9ec8e3e711bf26f27c509447f3", func := "loop.example/shatteredsets/laws.FnCubeCounts", spec := "fnCubeCounts", apart := false, narrowed := true }
def FnCubeCountsUptoSaid : Prop := fnCubeCountsUptoRow.holds Try.pinned (OpenSpec.upto fnCubeCountsSpec)

/-- 'laws.FnEulerOf', WHERE WHAT IT READS IS OF BULK AT MOST 1048576: true; the input reads as it did. -/
def fnEulerOfUptoRow : OpenClaim := { program := "ytbjaacppomobeaa", sum := "065cdd889d0bc77eac3ede8bb39d8f469c046f9ec8e3e711bf26f27c509447f3", func := "loop.example/shatteredsets/laws.FnEulerOf", spec := "fnEulerOf", unfollowed := true, recurses := true, apart := false, narrowed := true }
def FnEulerOfUptoSaid : Prop := fnEulerOfUptoRow.holds Try.pinned (OpenSpec.upto fnEulerOfSpec)

/-- 'laws.FnExactDistanceIn', WHERE WHAT IT READS IS OF BULK AT MOST 1048576: true; the input reads as it did. -/
def fnExactDistanceInUptoRow : OpenClaim := { program := "ytbjaacppomobeaa", sum := "065cdd889d0bc77eac3ede8bb39d8f469c046f9ec8e3e711bf26f27c509447f3", func := "loop.example/shatteredsets/laws.FnExactDistanceIn", spec := "fnExactDistanceIn", apart := false, narrowed := true }
def FnExactDistanceInUptoSaid : Prop := fnExactDistanceInUptoRow.holds Try.pinned (OpenSpec.upto fnExactDistanceInSpec)

/-- 'laws.FnExactComponentsOf', WHERE WHAT IT READS IS OF BULK AT MOST 1048576: true; the input reads as it did. -/
def fnExactComponentsOfUptoRow : OpenClaim := { program := "ytbjaacppomobeaa", sum := "065cdd889d0bc77eac3ede8bb39d8f469c046f9ec8e3e711bf26f27c509447f3", func := "loop.example/shatteredsets/laws.FnExactComponentsOf", spec := "fnExactComponentsOf", apart := false, narrowed := true }
def FnExactComponentsOfUptoSaid : Prop := fnExactComponentsOfUptoRow.holds Try.pinned (OpenSpec.upto fnExactComponentsOfSpec)

/-- 'laws.FnExactIsIsometric', WHERE WHAT IT READS IS OF BULK AT MOST 1048576: true; the input reads as it did. -/
def fnExactIsIsometricUptoRow : OpenClaim := { program := "ytbjaacppomobeaa", sum := "065cdd889d0bc77eac3ede8bb39d8f469c046f9ec8e3e711bf26f27c509447f3", func := "loop.example/shatteredsets/laws.FnExactIsIsometric", spec := "fnExactIsIsometric", apart := false, narrowed := true }
def FnExactIsIsometricUptoSaid : Prop := fnExactIsIsometricUptoRow.holds Try.pinned (OpenSpec.upto fnExactIsIsometricSpec)

end Rows
end Go.Proofs.Ytbjaacppomobeaa
