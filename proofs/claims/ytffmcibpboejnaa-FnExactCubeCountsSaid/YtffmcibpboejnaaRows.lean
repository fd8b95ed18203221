/-
  No cell of these rows narrows 'for every input' (looked for: loops, veiled, ifaces, maps, wideKeys, modest, calm, conditions, laid).
  DERIVED. THE GIVEN ROWS OF THIS SEAT. 4 by the template 'for every input the law returns true; each argument reads behind the call as it read before'; 0 by the template 'total and deterministic' (their statements: YtffmcibpboejnaaTotals.lean).
  GIVEN WITH THE SEED: the statements are not yours to turn. If you find one false, say at which input.
  Laid BY PROGRAM, IN A SANDBOX (cutbox-rows.mjs): the forced cells as the released guide's own fill.sh prints them over the translation 4db7d82b2d93c76f… (all of the seat's roots in one cut). By AI agents, Wed Nov 11 2026. No macro, syntax, notation, axiom, sorry.
-/
import Derived.Test.YtffmcibpboejnaaChecked
import GoSem.Claim
import GoSem.ClaimJoined
import GoSem.ClaimMapViews
import Derived.JoinedTies
import Derived.KernelRfl
namespace Go.Proofs.Ytffmcibpboejnaa
/- THE CELL 'sum', in the pinned program and in every row, IS THE sha256 OF THE DUMP (.gsa) THAT YtffmcibpboejnaaProg.lean LOADS. Nothing in Lean hashes anything: it is a label: what it is worth is what the hold of that sum in a sandbox is worth. -/
noncomputable def Try.pinned : Pinned := { name := "ytffmcibpboejnaa", sum := "4db7d82b2d93c76f76bb0984bf3beba47a4dc0161f849851d7f8d179907b32ad", checked := Try.checked }
namespace Rows
def none {H : Type} : Left H := { results := [], args := [] }

/-- 'laws.FnExactCubesOf': WHATEVER THE INPUT: true; the input reads as it did. -/
def fnExactCubesOfSpec : ChangeSpec := { name := "fnExactCubesOf", fn := fun _ => fun
  | [d] => { results := [.lit (.bool true)], args := [d] }
  | _ => none }
def fnExactCubesOfRow : OpenClaim := { program := "ytffmcibpboejnaa", sum := "4db7d82b2d93c76f76bb0984bf3beba47a4dc0161f849851d7f8d179907b32ad", func := "loop.example/shatteredsets/laws.FnExactCubesOf", spec := "fnExactCubesOf", apart := false }
def FnExactCubesOfSaid : Prop := fnExactCubesOfRow.holds Try.pinned (OpenSpec.ofChange fnExactCubesOfSpec)

/-- ITS FALSE NEIGHBOUR: 'it returns false'. Refute it at one input. -/
def fnExactCubesOfWrong : ChangeSpec := { name := "fnExactCubesOf", fn := fun _ => fun
  | [d] => { results := [.lit (.bool false)], args := [d] }
  | _ => none }
def FnExactCubesOfWrongFalsely : Prop := fnExactCubesOfRow.holds Try.pinned (OpenSpec.ofChange fnExactCubesOfWrong)

/-- 'laws.FnExactEulerOf': WHATEVER THE INPUT: true; the input reads as it did. -/
def fnExactEulerOfSpec : ChangeSpec := { name := "fnExactEulerOf", fn := fun _ => fun
  | [d] => { results := [.lit (.bool true)], args := [d] }
  | _ => none }
def fnExactEulerOfRow : OpenClaim := { program := "ytffmcibpboejnaa", sum := "4db7d82b2d93c76f76bb0984bf3beba47a4dc0161f849851d7f8d179907b32ad", func := "loop.example/shatteredsets/laws.FnExactEulerOf", spec := "fnExactEulerOf", apart := false }
def FnExactEulerOfSaid : Prop := fnExactEulerOfRow.holds Try.pinned (OpenSpec.ofChange fnExactEulerOfSpec)

/-- ITS FALSE NEIGHBOUR: 'it returns false'. Refute it at one input. -/
def fnExactEulerOfWrong : ChangeSpec := { name := "fnExactEulerOf", fn := fun _ => fun
  | [d] => { results := [.lit (.bool false)], args := [d] }
  | _ => none }
def FnExactEulerOfWrongFalsely : Prop := fnExactEulerOfRow.holds Try.pinned (OpenSpec.ofChange fnExactEulerOfWrong)

/-- 'laws.FnExactCubeCounts': WHATEVER THE INPUT: true; the input reads as it did. -/
def fnExactCubeCountsSpec : ChangeSpec := { name := "fnExactCubeCounts", fn := fun _ => fun
  | [d] => { results := [.lit (.bool true)], args := [d] }
  | _ => none }
def fnExactCubeCountsRow : OpenClaim := { program := "ytffmcibpboejnaa", sum := "4db7d82b2d93c76f76bb0984bf3beba47a4dc0161f849851d7f8d179907b32ad", func := "loop.example/shatteredsets/laws.FnExactCubeCounts", spec := "fnExactCubeCounts", apart := false }
def FnExactCubeCountsSaid : Prop := fnExactCubeCountsRow.holds Try.pinned (OpenSpec.ofChange fnExactCubeCountsSpec)

/-- ITS FALSE NEIGHBOUR: 'it returns false'. Refute it at one input. -/
def fnExactCubeCountsWrong : ChangeSpec := { name := "fnExactCubeCounts", fn := fun _ => fun
  | [d] => { results := [.lit (.bool false)], args := [d] }
  | _ => none }
def FnExactCubeCountsWrongFalsely : Prop := fnExactCubeCountsRow.holds Try.pinned (OpenSpec.ofChange fnExactCubeCountsWrong)

/-- 'laws.FnExactIsRepresentation': WHATEVER THE INPUT: true; the input reads as it did. -/
def fnExactIsRepresentationSpec : ChangeSpec := { name := "fnExactIsRepresentation", fn := fun _ => fun
  | [d1, d2] => { results := [.lit (.bool true)], args := [d1, d2] }
  | _ => none }
def fnExactIsRepresentationRow : OpenClaim := { program := "ytffmcibpboejnaa", sum := "4db7d82b2d93c76f76bb0984bf3beba47a4dc0161f849851d7f8d179907b32ad", func := "loop.example/shatteredsets/laws.FnExactIsRepresentation", spec := "fnExactIsRepresentation", apart := false }
def FnExactIsRepresentationSaid : Prop := fnExactIsRepresentationRow.holds Try.pinned (OpenSpec.ofChange fnExactIsRepresentationSpec)

/-- ITS FALSE NEIGHBOUR: 'it returns false'. Refute it at one input. -/
def fnExactIsRepresentationWrong : ChangeSpec := { name := "fnExactIsRepresentation", fn := fun _ => fun
  | [d1, d2] => { results := [.lit (.bool false)], args := [d1, d2] }
  | _ => none }
def FnExactIsRepresentationWrongFalsely : Prop := fnExactIsRepresentationRow.holds Try.pinned (OpenSpec.ofChange fnExactIsRepresentationWrong)

/- THE SECOND FORM. 'bulk': how many values and letters a reading holds, each counted each time it is reached (what is shared counts as often as it is met; a slice's spare places count too). A statement '..UptoSaid' is the law's where the arguments, and the package variables that the reading takes, are together of bulk at most 1048576: NARROWER than '..Said'. Prove '..Said' where nothing that the law and all that it calls make is longer than what came in: it says more and counts as full. Else prove '..UptoSaid'. A law counts once. -/
mutual
def uptoBulk {H : Type} : DataW H → Nat
  | .lit (.string bytes) => bytes.length + 1
  | .lit _ => 1
  | .nil => 1
  | .ptr d => uptoBulk d + 1
  | .slice elems spare => uptoBulkAll elems + uptoBulkAll spare + 1
  | .agg parts => uptoBulkAll parts + 1
  | .iface _ d => uptoBulk d + 1
  | .map entries => uptoBulkEntries entries + 1
  | .held _ => 1
def uptoBulkAll {H : Type} : List (DataW H) → Nat
  | [] => 0
  | d :: r => uptoBulk d + uptoBulkAll r
def uptoBulkEntries {H : Type} : List (Lit × DataW H) → Nat
  | [] => 0
  | x :: r => uptoBulkEntry x + uptoBulkEntries r
def uptoBulkEntry {H : Type} : Lit × DataW H → Nat
  | (.string bytes, d) => bytes.length + uptoBulk d + 1
  | (_, d) => uptoBulk d + 1
 end
def uptoSmall : (H : Type) → List (DataW H) → Bool := fun _ ds => decide (uptoBulkAll ds ≤ 1048576)
def OpenSpec.upto (s : _root_.Go.ChangeSpec) : _root_.Go.OpenSpec := { _root_.Go.OpenSpec.ofChange s with cond := some uptoSmall }

/-- 'laws.FnExactCubesOf', WHERE WHAT IT READS IS OF BULK AT MOST 1048576: true; the input reads as it did. -/
def fnExactCubesOfUptoRow : OpenClaim := { program := "ytffmcibpboejnaa", sum := "4db7d82b2d93c76f76bb0984bf3beba47a4dc0161f849851d7f8d179907b32ad", func := "loop.example/shatteredsets/laws.FnExactCubesOf", spec := "fnExactCubesOf", apart := false, narrowed := true }
def FnExactCubesOfUptoSaid : Prop := fnExactCubesOfUptoRow.holds Try.pinned (OpenSpec.upto fnExactCubesOfSpec)

/-- 'laws.FnExactEulerOf', WHERE WHAT IT READS IS OF BULK AT MOST 1048576: true; the input reads as it did. -/
def fnExactEulerOfUptoRow : OpenClaim := { program := "ytffmcibpboejnaa", sum := "4db7d82b2d93c76f76bb0984bf3beba47a4dc0161f849851d7f8d179907b32ad", func := "loop.example/shatteredsets/laws.FnExactEulerOf", spec := "fnExactEulerOf", apart := false, narrowed := true }
def FnExactEulerOfUptoSaid : Prop := fnExactEulerOfUptoRow.holds Try.pinned (OpenSpec.upto fnExactEulerOfSpec)

/-- 'laws.FnExactCubeCounts', WHERE WHAT IT READS IS OF BULK AT MOST 1048576: true; the input reads as it did. -/
def fnExactCubeCountsUptoRow : OpenClaim := { program := "ytffmcibpboejnaa", sum := "4db7d82b2d93c76f76bb0984bf3beba47a4dc0161f849851d7f8d179907b32ad", func := "loop.example/shatteredsets/laws.FnExactCubeCounts", spec := "fnExactCubeCounts", apart := false, narrowed := true }
def FnExactCubeCountsUptoSaid : Prop := fnExactCubeCountsUptoRow.holds Try.pinned (OpenSpec.upto fnExactCubeCountsSpec)

/-- 'laws.FnExactIsRepresentation', WHERE WHAT IT READS IS OF BULK AT MOST 1048576: true; the input reads as it did. -/
def fnExactIsRepresentationUptoRow : OpenClaim := { program := "ytffmcibpboejnaa", sum := "4db7d82b2d93c76f76bb0984bf3beba47a4dc0161f849851d7f8d179907b32ad", func := "loop.example/shatteredsets/laws.FnExactIsRepresentation", spec := "fnExactIsRepresentation", apart := false, narrowed := true }
def FnExactIsRepresentationUptoSaid : Prop := fnExactIsRepresentationUptoRow.holds Try.pinned (OpenSpec.upto fnExactIsRepresentationSpec)

end Rows
end Go.Proofs.Ytffmcibpboejnaa
