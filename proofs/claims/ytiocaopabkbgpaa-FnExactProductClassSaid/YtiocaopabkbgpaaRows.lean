/-
  No cell of these rows narrows 'for every input' (looked for: loops, veiled, ifaces, maps, wideKeys, modest, calm, conditions, laid).
  DERIVED. THE GIVEN ROWS OF THIS SEAT. 3 by the template 'for every input the law returns true; each argument reads behind the call as it read before'; 0 by the template 'total and deterministic' (their statements: YtiocaopabkbgpaaTotals.lean).
  GIVEN WITH THE SEED: the statements are not yours to turn. If you find one false, say at which input.
  Laid BY PROGRAM, IN A SANDBOX (cutbox-rows.mjs): the forced cells as the released guide's own fill.sh prints them over the translation a99be3eef02589d8… (all of the seat's roots in one cut). By AI agents, Wed Nov 11 2026. No macro, syntax, notation, axiom, sorry.
-/
import Derived.Test.YtiocaopabkbgpaaChecked
import GoSem.Claim
import GoSem.ClaimJoined
import GoSem.ClaimMapViews
import Derived.JoinedTies
import Derived.KernelRfl
namespace Go.Proofs.Ytiocaopabkbgpaa
/- THE CELL 'sum', in the pinned program and in every row, IS THE sha256 OF THE DUMP (.gsa) THAT YtiocaopabkbgpaaProg.lean LOADS. Nothing in Lean hashes anything: it is a label: what it is worth is what the hold of that sum in a sandbox is worth. -/
noncomputable def Try.pinned : Pinned := { name := "ytiocaopabkbgpaa", sum := "a99be3eef02589d8d67ef7c1fed81cecf03ce2d48ad6e96fde374a05d0ccd54b", checked := Try.checked }
namespace Rows
def none {H : Type} : Left H := { results := [], args := [] }

/-- 'laws.FnRiskOf': WHATEVER THE INPUT: true; the input reads as it did. -/
def fnRiskOfSpec : ChangeSpec := { name := "fnRiskOf", fn := fun _ => fun
  | [d] => { results := [.lit (.bool true)], args := [d] }
  | _ => none }
def fnRiskOfRow : OpenClaim := { program := "ytiocaopabkbgpaa", sum := "a99be3eef02589d8d67ef7c1fed81cecf03ce2d48ad6e96fde374a05d0ccd54b", func := "loop.example/shatteredsets/laws.FnRiskOf", spec := "fnRiskOf", unfollowed := true, recurses := true, apart := false }
def FnRiskOfSaid : Prop := fnRiskOfRow.holds Try.pinned (OpenSpec.ofChange fnRiskOfSpec)

/-- ITS FALSE NEIGHBOUR: 'it returns false'. Refute it at one input. -/
def fnRiskOfWrong : ChangeSpec := { name := "fnRiskOf", fn := fun _ => fun
  | [d] => { results := [.lit (.bool false)], args := [d] }
  | _ => none }
def FnRiskOfWrongFalsely : Prop := fnRiskOfRow.holds Try.pinned (OpenSpec.ofChange fnRiskOfWrong)

/-- 'laws.FnValidSample': WHATEVER THE INPUT: true; the input reads as it did. -/
def fnValidSampleSpec : ChangeSpec := { name := "fnValidSample", fn := fun _ => fun
  | [d] => { results := [.lit (.bool true)], args := [d] }
  | _ => none }
def fnValidSampleRow : OpenClaim := { program := "ytiocaopabkbgpaa", sum := "a99be3eef02589d8d67ef7c1fed81cecf03ce2d48ad6e96fde374a05d0ccd54b", func := "loop.example/shatteredsets/laws.FnValidSample", spec := "fnValidSample", unfollowed := true, recurses := true, apart := false }
def FnValidSampleSaid : Prop := fnValidSampleRow.holds Try.pinned (OpenSpec.ofChange fnValidSampleSpec)

/-- ITS FALSE NEIGHBOUR: 'it returns false'. Refute it at one input. -/
def fnValidSampleWrong : ChangeSpec := { name := "fnValidSample", fn := fun _ => fun
  | [d] => { results := [.lit (.bool false)], args := [d] }
  | _ => none }
def FnValidSampleWrongFalsely : Prop := fnValidSampleRow.holds Try.pinned (OpenSpec.ofChange fnValidSampleWrong)

/-- 'laws.FnExactProductClass': WHATEVER THE INPUT: true; the input reads as it did. -/
def fnExactProductClassSpec : ChangeSpec := { name := "fnExactProductClass", fn := fun _ => fun
  | [d1, d2] => { results := [.lit (.bool true)], args := [d1, d2] }
  | _ => none }
def fnExactProductClassRow : OpenClaim := { program := "ytiocaopabkbgpaa", sum := "a99be3eef02589d8d67ef7c1fed81cecf03ce2d48ad6e96fde374a05d0ccd54b", func := "loop.example/shatteredsets/laws.FnExactProductClass", spec := "fnExactProductClass", apart := false }
def FnExactProductClassSaid : Prop := fnExactProductClassRow.holds Try.pinned (OpenSpec.ofChange fnExactProductClassSpec)

/-- ITS FALSE NEIGHBOUR: 'it returns false'. Refute it at one input. -/
def fnExactProductClassWrong : ChangeSpec := { name := "fnExactProductClass", fn := fun _ => fun
  | [d1, d2] => { results := [.lit (.bool false)], args := [d1, d2] }
  | _ => none }
def FnExactProductClassWrongFalsely : Prop := fnExactProductClassRow.holds Try.pinned (OpenSpec.ofChange fnExactProductClassWrong)

/- THE SECOND FORM. 'bulk': how many values and letters a reading holds, each counted each time it is reached (what is shared counts as often as it is met; a slice's spare places count too). A statement '..UptoSaid' is the law's where the arguments, and the package variables that the reading takes, are together of bulk at most 1048576: NARROWER than '..Said'. Prove '..Said' where nothing that the law and all that it calls make is longer than what came in: it says more and counts as full. Else prove '..UptoSaid'. A law counts once. -/
mutual
def uptoBulk {H : Type} : DataW H → Nat
  | .lit (.string bytes) => bytes.length + 1
  | .lit _ => 1
  | .nil => 1
  | .ptr d => uptoBulk d + 1
  | .slice elems spare => uptoBulkAll elems + uptoBulkAll spare + 1
  | .agg parts => uptoBulkAll parts + 1
  | .iface _ d => uptoBulk d + 1
  | .map entries => uptoBulkEntries entries + 1
  | .held _ => 1
def uptoBulkAll {H : Type} : List (DataW H) → Nat
  | [] => 0
  | d :: r => uptoBulk d + uptoBulkAll r
def uptoBulkEntries {H : Type} : List (Lit × DataW H) → Nat
  | [] => 0
  | x :: r => uptoBulkEntry x + uptoBulkEntries r
def uptoBulkEntry {H : Type} : Lit × DataW H → Nat
  | (.string bytes, d) => bytes.length + uptoBulk d + 1
  | (_, d) => uptoBulk d + 1
 end
def uptoSmall : (H : Type) → List (DataW H) → Bool := fun _ ds => decide (uptoBulkAll ds ≤ 1048576)
def OpenSpec.upto (s : _root_.Go.ChangeSpec) : _root_.Go.OpenSpec := { _root_.Go.OpenSpec.ofChange s with cond := some uptoSmall }

/-- 'laws.FnRiskOf', WHERE WHAT IT READS IS OF BULK AT MOST 1048576: true; the input reads as it did. -/
def fnRiskOfUptoRow : OpenClaim := { program := "ytiocaopabkbgpaa", sum := "a99be3eef02589d8d67ef7c1fed81cecf03ce2d48ad6e96fde374a05d0ccd54b", func := "loop.example/shatteredsets/laws.FnRiskOf", spec := "fnRiskOf", unfollowed := true, recurses := true, apart := false, narrowed := true }
def FnRiskOfUptoSaid : Prop := fnRiskOfUptoRow.holds Try.pinned (OpenSpec.upto fnRiskOfSpec)

/-- 'laws.FnValidSample', WHERE WHAT IT READS IS OF BULK AT MOST 1048576: true; the input reads as it did. -/
def fnValidSampleUptoRow : OpenClaim := { program := "ytiocaopabkbgpaa", sum := "a99be3eef02589d8d67ef7c1fed81cecf03ce2d48ad6e96fde374a05d0ccd54b", func := "loop.example/shatteredsets/laws.FnValidSample", spec := "fnValidSample", unfollowed := true, recurses := true, apart := false, narrowed := true }
def FnValidSampleUptoSaid : Prop := fnValidSampleUptoRow.holds Try.pinned (OpenSpec.upto fnValidSampleSpec)

/-- 'laws.FnExactProductClass', WHERE WHAT IT READS IS OF BULK AT MOST 1048576: true; the input reads as it did. -/
def fnExactProductClassUptoRow : OpenClaim := { program := "ytiocaopabkbgpaa", sum := "a99be3eef02589d8d67ef7c1fed81cecf03ce2d48ad6e96fde374a05d0ccd54b", func := "loop.example/shatteredsets/laws.FnExactProductClass", spec := "fnExactProductClass", apart := false, narrowed := true }
def FnExactProductClassUptoSaid : Prop := fnExactProductClassUptoRow.holds Try.pinned (OpenSpec.upto fnExactProductClassSpec)

end Rows
end Go.Proofs.Ytiocaopabkbgpaa
