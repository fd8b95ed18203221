/-
  No cell of these rows narrows 'for every input' (looked for: loops, veiled, ifaces, maps, wideKeys, modest, calm, conditions, laid).
  DERIVED. THE GIVEN ROWS OF THIS SEAT. 3 by the template 'for every input the law returns true; each argument reads behind the call as it read before'; 0 by the template 'total and deterministic' (their statements: YtfcdnecikflehaaTotals.lean).
  GIVEN WITH THE SEED: the statements are not yours to turn. If you find one false, say at which input.
  Laid BY PROGRAM, IN A SANDBOX (cutbox-rows.mjs): the forced cells as the released guide's own fill.sh prints them over the translation d05bbffab131eb14… (all of the seat's roots in one cut). By AI agents, Wed Nov 11 2026. No macro, syntax, notation, axiom, sorry.
-/
import Derived.Test.YtfcdnecikflehaaChecked
import GoSem.Claim
import GoSem.ClaimJoined
import GoSem.ClaimMapViews
import Derived.JoinedTies
import Derived.KernelRfl
namespace Go.Proofs.Ytfcdnecikflehaa
/- THE CELL 'sum', in the pinned program and in every row, IS THE sha256 OF THE DUMP (.gsa) THAT YtfcdnecikflehaaProg.lean LOADS. Nothing in Lean hashes anything: it is a label: what it is worth is what the hold of that sum in a sandbox is worth. -/
noncomputable def Try.pinned : Pinned := { name := "ytfcdnecikflehaa", sum := "d05bbffab131eb14891e7c26c5d7a0c0b1e85d7eb79f240f6fdda01d59b58107", checked := Try.checked }
namespace Rows
def none {H : Type} : Left H := { results := [], args := [] }

/-- 'laws.FnDualClass': WHATEVER THE INPUT: true; the input reads as it did. -/
def fnDualClassSpec : ChangeSpec := { name := "fnDualClass", fn := fun _ => fun
  | [d] => { results := [.lit (.bool true)], args := [d] }
  | _ => none }
def fnDualClassRow : OpenClaim := { program := "ytfcdnecikflehaa", sum := "d05bbffab131eb14891e7c26c5d7a0c0b1e85d7eb79f240f6fdda01d59b58107", func := "loop.example/shatteredsets/laws.FnDualClass", spec := "fnDualClass", unfollowed := true, recurses := true, apart := false }
def FnDualClassSaid : Prop := fnDualClassRow.holds Try.pinned (OpenSpec.ofChange fnDualClassSpec)

/-- ITS FALSE NEIGHBOUR: 'it returns false'. Refute it at one input. -/
def fnDualClassWrong : ChangeSpec := { name := "fnDualClass", fn := fun _ => fun
  | [d] => { results := [.lit (.bool false)], args := [d] }
  | _ => none }
def FnDualClassWrongFalsely : Prop := fnDualClassRow.holds Try.pinned (OpenSpec.ofChange fnDualClassWrong)

/-- 'laws.FnOutdegreeOf': WHATEVER THE INPUT: true; the input reads as it did. -/
def fnOutdegreeOfSpec : ChangeSpec := { name := "fnOutdegreeOf", fn := fun _ => fun
  | [d] => { results := [.lit (.bool true)], args := [d] }
  | _ => none }
def fnOutdegreeOfRow : OpenClaim := { program := "ytfcdnecikflehaa", sum := "d05bbffab131eb14891e7c26c5d7a0c0b1e85d7eb79f240f6fdda01d59b58107", func := "loop.example/shatteredsets/laws.FnOutdegreeOf", spec := "fnOutdegreeOf", unfollowed := true, recurses := true, apart := false }
def FnOutdegreeOfSaid : Prop := fnOutdegreeOfRow.holds Try.pinned (OpenSpec.ofChange fnOutdegreeOfSpec)

/-- ITS FALSE NEIGHBOUR: 'it returns false'. Refute it at one input. -/
def fnOutdegreeOfWrong : ChangeSpec := { name := "fnOutdegreeOf", fn := fun _ => fun
  | [d] => { results := [.lit (.bool false)], args := [d] }
  | _ => none }
def FnOutdegreeOfWrongFalsely : Prop := fnOutdegreeOfRow.holds Try.pinned (OpenSpec.ofChange fnOutdegreeOfWrong)

/-- 'laws.FnExactOutdegreeOf': WHATEVER THE INPUT: true; the input reads as it did. -/
def fnExactOutdegreeOfSpec : ChangeSpec := { name := "fnExactOutdegreeOf", fn := fun _ => fun
  | [d] => { results := [.lit (.bool true)], args := [d] }
  | _ => none }
def fnExactOutdegreeOfRow : OpenClaim := { program := "ytfcdnecikflehaa", sum := "d05bbffab131eb14891e7c26c5d7a0c0b1e85d7eb79f240f6fdda01d59b58107", func := "loop.example/shatteredsets/laws.FnExactOutdegreeOf", spec := "fnExactOutdegreeOf", recurses := true, apart := false }
def FnExactOutdegreeOfSaid : Prop := fnExactOutdegreeOfRow.holds Try.pinned (OpenSpec.ofChange fnExactOutdegreeOfSpec)

/-- ITS FALSE NEIGHBOUR: 'it returns false'. Refute it at one input. -/
def fnExactOutdegreeOfWrong : ChangeSpec := { name := "fnExactOutdegreeOf", fn := fun _ => fun
  | [d] => { results := [.lit (.bool false)], args := [d] }
  | _ => none }
def FnExactOutdegreeOfWrongFalsely : Prop := fnExactOutdegreeOfRow.holds Try.pinned (OpenSpec.ofChange fnExactOutdegreeOfWrong)

/- THE SECOND FORM. 'bulk': how many values and letters a reading holds, each counted each time it is reached (what is shared counts as often as it is met; a slice's spare places count too). A statement '..UptoSaid' is the law's where the arguments, and the package variables that the reading takes, are together of bulk at most 1048576: NARROWER than '..Said'. Prove '..Said' where nothing that the law and all that it calls make is longer than what came in: it says more and counts as full. Else prove '..UptoSaid'. A law counts once. -/
mutual
def uptoBulk {H : Type} : DataW H → Nat
  | .lit (.string bytes) => bytes.length + 1
  | .lit _ => 1
  | .nil => 1
  | .ptr d => uptoBulk d + 1
  | .slice elems spare => uptoBulkAll elems + uptoBulkAll spare + 1
  | .agg parts => uptoBulkAll parts + 1
  | .iface _ d => uptoBulk d + 1
  | .map entries => uptoBulkEntries entries + 1
  | .held _ => 1
def uptoBulkAll {H : Type} : List (DataW H) → Nat
  | [] => 0
  | d :: r => uptoBulk d + uptoBulkAll r
def uptoBulkEntries {H : Type} : List (Lit × DataW H) → Nat
  | [] => 0
  | x :: r => uptoBulkEntry x + uptoBulkEntries r
def uptoBulkEntry {H : Type} : Lit × DataW H → Nat
  | (.string bytes, d) => bytes.length + uptoBulk d + 1
  | (_, d) => uptoBulk d + 1
 end
def uptoSmall : (H : Type) → List (DataW H) → Bool := fun _ ds => decide (uptoBulkAll ds ≤ 1048576)
def OpenSpec.upto (s : _root_.Go.ChangeSpec) : _root_.Go.OpenSpec := { _root_.Go.OpenSpec.ofChange s with cond := some uptoSmall }

/-- 'laws.FnDualClass', WHERE WHAT IT READS IS OF BULK AT MOST 1048576: true; the input reads as it did. -/
def fnDualClassUptoRow : OpenClaim := { program := "ytfcdnecikflehaa", sum := "d05bbffab131eb14891e7c26c5d7a0c0b1e85d7eb79f240f6fdda01d59b58107", func := "loop.example/shatteredsets/laws.FnDualClass", spec := "fnDualClass", unfollowed := true, recurses := true, apart := false, narrowed := true }
def FnDualClassUptoSaid : Prop := fnDualClassUptoRow.holds Try.pinned (OpenSpec.upto fnDualClassSpec)

/-- 'laws.FnOutdegreeOf', WHERE WHAT IT READS IS OF BULK AT MOST 1048576: true; the input reads as it did. -/
def fnOutdegreeOfUptoRow : OpenClaim := { program := "ytfcdnecikflehaa", sum := "d05bbffab131eb14891e7c26c5d7a0c0b1e85d7eb79f240f6fdda01d59b58107", func := "loop.example/shatteredsets/laws.FnOutdegreeOf", spec := "fnOutdegreeOf", unfollowed := true, recurses := true, apart := false, narrowed := true }
def FnOutdegreeOfUptoSaid : Prop := fnOutdegreeOfUptoRow.holds Try.pinned (OpenSpec.upto fnOutdegreeOfSpec)

/-- 'laws.FnExactOutdegreeOf', WHERE WHAT IT READS IS OF BULK AT MOST 1048576: true; the input reads as it did. -/
def fnExactOutdegreeOfUptoRow : OpenClaim := { program := "ytfcdnecikflehaa", sum := "d05bbffab131eb14891e7c26c5d7a0c0b1e85d7eb79f240f6fdda01d59b58107", func := "loop.example/shatteredsets/laws.FnExactOutdegreeOf", spec := "fnExactOutdegreeOf", recurses := true, apart := false, narrowed := true }
def FnExactOutdegreeOfUptoSaid : Prop := fnExactOutdegreeOfUptoRow.holds Try.pinned (OpenSpec.upto fnExactOutdegreeOfSpec)

end Rows
end Go.Proofs.Ytfcdnecikflehaa
