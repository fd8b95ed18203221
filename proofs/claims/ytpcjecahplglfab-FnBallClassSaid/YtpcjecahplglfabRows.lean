/-
  No cell of these rows narrows 'for every input' (looked for: loops, veiled, ifaces, maps, wideKeys, modest, calm, conditions, laid).
  DERIVED. THE GIVEN ROWS OF THIS SEAT. 9 by the template 'for every input the law returns true; each argument reads behind the call as it read before'; 0 by the template 'total and deterministic' (their statements: YtpcjecahplglfabTotals.lean).
  GIVEN WITH THE SEED: the statements are not yours to turn. If you find one false, say at which input.
  Laid BY PROGRAM, IN A SANDBOX (cutbox-rows.mjs): the forced cells as the released guide's own fill.sh prints them over the translation 5d8488877e7769a3… (all of the seat's roots in one cut). By AI agents, Wed Nov 11 2026. No macro, syntax, notation, axiom, sorry.
-/
import Derived.Test.YtpcjecahplglfabChecked
import GoSem.Claim
import GoSem.ClaimJoined
import GoSem.ClaimMapViews
import Derived.JoinedTies
import Derived.KernelRfl
namespace Go.Proofs.Ytpcjecahplglfab
/- THE CELL 'sum', in the pinned program and in every row, IS THE sha256 OF THE DUMP (.gsa) THAT YtpcjecahplglfabProg.lean LOADS. Nothing in Lean hashes anything: it is a label: what it is worth is what the hold of that sum in a sandbox is worth. -/
noncomputable def Try.pinned : Pinned := { name := "ytpcjecahplglfab", sum := "5d8488877e7769a36efb43f288412b7e7f5640b6f3c430d64abdea7c35432a80", checked := Try.checked }
namespace Rows
def none {H : Type} : Left H := { results := [], args := [] }

/-- 'laws.FnExactUnionClass': WHATEVER THE INPUT: true; the input reads as it did. -/
def fnExactUnionClassSpec : ChangeSpec := { name := "fnExactUnionClass", fn := fun _ => fun
  | [d1, d2] => { results := [.lit (.bool true)], args := [d1, d2] }
  | _ => none }
def fnExactUnionClassRow : OpenClaim := { program := "ytpcjecahplglfab", sum := "5d8488877e7769a36efb43f288412b7e7f5640b6f3c430d64abdea7c35432a80", func := "loop.example/shatteredsets/laws.FnExactUnionClass", spec := "fnExactUnionClass", unfollowed := true, recurses := true, apart := false }
def FnExactUnionClassSaid : Prop := fnExactUnionClassRow.holds Try.pinned (OpenSpec.ofChange fnExactUnionClassSpec)

/-- ITS FALSE NEIGHBOUR: 'it returns false'. Refute it at one input. -/
def fnExactUnionClassWrong : ChangeSpec := { name := "fnExactUnionClass", fn := fun _ => fun
  | [d1, d2] => { results := [.lit (.bool false)], args := [d1, d2] }
  | _ => none }
def FnExactUnionClassWrongFalsely : Prop := fnExactUnionClassRow.holds Try.pinned (OpenSpec.ofChange fnExactUnionClassWrong)

/-- 'laws.FnUnionClass': WHATEVER THE INPUT: true; the input reads as it did. -/
def fnUnionClassSpec : ChangeSpec := { name := "fnUnionClass", fn := fun _ => fun
  | [d] => { results := [.lit (.bool true)], args := [d] }
  | _ => none }
def fnUnionClassRow : OpenClaim := { program := "ytpcjecahplglfab", sum := "5d8488877e7769a36efb43f288412b7e7f5640b6f3c430d64abdea7c35432a80", func := "loop.example/shatteredsets/laws.FnUnionClass", spec := "fnUnionClass", unfollowed := true, recurses := true, apart := false }
def FnUnionClassSaid : Prop := fnUnionClassRow.holds Try.pinned (OpenSpec.ofChange fnUnionClassSpec)

/-- ITS FALSE NEIGHBOUR: 'it returns false'. Refute it at one input. -/
def fnUnionClassWrong : ChangeSpec := { name := "fnUnionClass", fn := fun _ => fun
  | [d] => { results := [.lit (.bool false)], args := [d] }
  | _ => none }
def FnUnionClassWrongFalsely : Prop := fnUnionClassRow.holds Try.pinned (OpenSpec.ofChange fnUnionClassWrong)

/-- 'laws.FnExactMeetClass': WHATEVER THE INPUT: true; the input reads as it did. -/
def fnExactMeetClassSpec : ChangeSpec := { name := "fnExactMeetClass", fn := fun _ => fun
  | [d1, d2] => { results := [.lit (.bool true)], args := [d1, d2] }
  | _ => none }
def fnExactMeetClassRow : OpenClaim := { program := "ytpcjecahplglfab", sum := "5d8488877e7769a36efb43f288412b7e7f5640b6f3c430d64abdea7c35432a80", func := "loop.example/shatteredsets/laws.FnExactMeetClass", spec := "fnExactMeetClass", unfollowed := true, recurses := true, apart := false }
def FnExactMeetClassSaid : Prop := fnExactMeetClassRow.holds Try.pinned (OpenSpec.ofChange fnExactMeetClassSpec)

/-- ITS FALSE NEIGHBOUR: 'it returns false'. Refute it at one input. -/
def fnExactMeetClassWrong : ChangeSpec := { name := "fnExactMeetClass", fn := fun _ => fun
  | [d1, d2] => { results := [.lit (.bool false)], args := [d1, d2] }
  | _ => none }
def FnExactMeetClassWrongFalsely : Prop := fnExactMeetClassRow.holds Try.pinned (OpenSpec.ofChange fnExactMeetClassWrong)

/-- 'laws.FnMeetClass': WHATEVER THE INPUT: true; the input reads as it did. -/
def fnMeetClassSpec : ChangeSpec := { name := "fnMeetClass", fn := fun _ => fun
  | [d] => { results := [.lit (.bool true)], args := [d] }
  | _ => none }
def fnMeetClassRow : OpenClaim := { program := "ytpcjecahplglfab", sum := "5d8488877e7769a36efb43f288412b7e7f5640b6f3c430d64abdea7c35432a80", func := "loop.example/shatteredsets/laws.FnMeetClass", spec := "fnMeetClass", unfollowed := true, recurses := true, apart := false }
def FnMeetClassSaid : Prop := fnMeetClassRow.holds Try.pinned (OpenSpec.ofChange fnMeetClassSpec)

/-- ITS FALSE NEIGHBOUR: 'it returns false'. Refute it at one input. -/
def fnMeetClassWrong : ChangeSpec := { name := "fnMeetClass", fn := fun _ => fun
  | [d] => { results := [.lit (.bool false)], args := [d] }
  | _ => none }
def FnMeetClassWrongFalsely : Prop := fnMeetClassRow.holds Try.pinned (OpenSpec.ofChange fnMeetClassWrong)

/-- 'laws.FnComplementClass': WHATEVER THE INPUT: true; the input reads as it did. -/
def fnComplementClassSpec : ChangeSpec := { name := "fnComplementClass", fn := fun _ => fun
  | [d] => { results := [.lit (.bool true)], args := [d] }
  | _ => none }
def fnComplementClassRow : OpenClaim := { program := "ytpcjecahplglfab", sum := "5d8488877e7769a36efb43f288412b7e7f5640b6f3c430d64abdea7c35432a80", func := "loop.example/shatteredsets/laws.FnComplementClass", spec := "fnComplementClass", unfollowed := true, recurses := true, apart := false }
def FnComplementClassSaid : Prop := fnComplementClassRow.holds Try.pinned (OpenSpec.ofChange fnComplementClassSpec)

/-- ITS FALSE NEIGHBOUR: 'it returns false'. Refute it at one input. -/
def fnComplementClassWrong : ChangeSpec := { name := "fnComplementClass", fn := fun _ => fun
  | [d] => { results := [.lit (.bool false)], args := [d] }
  | _ => none }
def FnComplementClassWrongFalsely : Prop := fnComplementClassRow.holds Try.pinned (OpenSpec.ofChange fnComplementClassWrong)

/-- 'laws.FnExactBallClass': WHATEVER THE INPUT: true; the input reads as it did. -/
def fnExactBallClassSpec : ChangeSpec := { name := "fnExactBallClass", fn := fun _ => fun
  | [d1, d2, d3] => { results := [.lit (.bool true)], args := [d1, d2, d3] }
  | _ => none }
def fnExactBallClassRow : OpenClaim := { program := "ytpcjecahplglfab", sum := "5d8488877e7769a36efb43f288412b7e7f5640b6f3c430d64abdea7c35432a80", func := "loop.example/shatteredsets/laws.FnExactBallClass", spec := "fnExactBallClass", unfollowed := true, recurses := true, apart := false }
def FnExactBallClassSaid : Prop := fnExactBallClassRow.holds Try.pinned (OpenSpec.ofChange fnExactBallClassSpec)

/-- ITS FALSE NEIGHBOUR: 'it returns false'. Refute it at one input. -/
def fnExactBallClassWrong : ChangeSpec := { name := "fnExactBallClass", fn := fun _ => fun
  | [d1, d2, d3] => { results := [.lit (.bool false)], args := [d1, d2, d3] }
  | _ => none }
def FnExactBallClassWrongFalsely : Prop := fnExactBallClassRow.holds Try.pinned (OpenSpec.ofChange fnExactBallClassWrong)

/-- 'laws.FnBallClass': WHATEVER THE INPUT: true; the input reads as it did. -/
def fnBallClassSpec : ChangeSpec := { name := "fnBallClass", fn := fun _ => fun
  | [d] => { results := [.lit (.bool true)], args := [d] }
  | _ => none }
def fnBallClassRow : OpenClaim := { program := "ytpcjecahplglfab", sum := "5d8488877e7769a36efb43f288412b7e7f5640b6f3c430d64abdea7c35432a80", func := "loop.example/shatteredsets/laws.FnBallClass", spec := "fnBallClass", unfollowed := true, recurses := true, apart := false }
def FnBallClassSaid : Prop := fnBallClassRow.holds Try.pinned (OpenSpec.ofChange fnBallClassSpec)

/-- ITS FALSE NEIGHBOUR: 'it returns false'. Refute it at one input. -/
def fnBallClassWrong : ChangeSpec := { name := "fnBallClass", fn := fun _ => fun
  | [d] => { results := [.lit (.bool false)], args := [d] }
  | _ => none }
def FnBallClassWrongFalsely : Prop := fnBallClassRow.holds Try.pinned (OpenSpec.ofChange fnBallClassWrong)

/-- 'laws.FnExactProductClass': WHATEVER THE INPUT: true; the input reads as it did. -/
def fnExactProductClassSpec : ChangeSpec := { name := "fnExactProductClass", fn := fun _ => fun
  | [d1, d2] => { results := [.lit (.bool true)], args := [d1, d2] }
  | _ => none }
def fnExactProductClassRow : OpenClaim := { program := "ytpcjecahplglfab", sum := "5d8488877e7769a36efb43f288412b7e7f5640b6f3c430d64abdea7c35432a80", func := "loop.example/shatteredsets/laws.FnExactProductClass", spec := "fnExactProductClass", apart := false }
def FnExactProductClassSaid : Prop := fnExactProductClassRow.holds Try.pinned (OpenSpec.ofChange fnExactProductClassSpec)

/-- ITS FALSE NEIGHBOUR: 'it returns false'. Refute it at one input. -/
def fnExactProductClassWrong : ChangeSpec := { name := "fnExactProductClass", fn := fun _ => fun
  | [d1, d2] => { results := [.lit (.bool false)], args := [d1, d2] }
  | _ => none }
def FnExactProductClassWrongFalsely : Prop := fnExactProductClassRow.holds Try.pinned (OpenSpec.ofChange fnExactProductClassWrong)

/-- 'laws.FnExactThresholdClass': WHATEVER THE INPUT: true; the input reads as it did. -/
def fnExactThresholdClassSpec : ChangeSpec := { name := "fnExactThresholdClass", fn := fun _ => fun
  | [d] => { results := [.lit (.bool true)], args := [d] }
  | _ => none }
def fnExactThresholdClassRow : OpenClaim := { program := "ytpcjecahplglfab", sum := "5d8488877e7769a36efb43f288412b7e7f5640b6f3c430d64abdea7c35432a80", func := "loop.example/shatteredsets/laws.FnExactThresholdClass", spec := "fnExactThresholdClass", apart := false }
def FnExactThresholdClassSaid : Prop := fnExactThresholdClassRow.holds Try.pinned (OpenSpec.ofChange fnExactThresholdClassSpec)

/-- ITS FALSE NEIGHBOUR: 'it returns false'. Refute it at one input. -/
def fnExactThresholdClassWrong : ChangeSpec := { name := "fnExactThresholdClass", fn := fun _ => fun
  | [d] => { results := [.lit (.bool false)], args := [d] }
  | _ => none }
def FnExactThresholdClassWrongFalsely : Prop := fnExactThresholdClassRow.holds Try.pinned (OpenSpec.ofChange fnExactThresholdClassWrong)

/- THE SECOND FORM. 'bulk': how many values and letters a reading holds, each counted each time it is reached (what is shared counts as often as it is met; a slice's spare places count too). A statement '..UptoSaid' is the law's where the arguments, and the package variables that the reading takes, are together of bulk at most 1048576: NARROWER than '..Said'. Prove '..Said' where nothing that the law and all that it calls make is longer than what came in: it says more and counts as full. Else prove '..UptoSaid'. A law counts once. -/
mutual
def uptoBulk {H : Type} : DataW H → Nat
  | .lit (.string bytes) => bytes.length + 1
  | .lit _ => 1
  | .nil => 1
  | .ptr d => uptoBulk d + 1
  | .slice elems spare => uptoBulkAll elems + uptoBulkAll spare + 1
  | .agg parts => uptoBulkAll parts + 1
  | .iface _ d => uptoBulk d + 1
  | .map entries => uptoBulkEntries entries + 1
  | .held _ => 1
def uptoBulkAll {H : Type} : List (DataW H) → Nat
  | [] => 0
  | d :: r => uptoBulk d + uptoBulkAll r
def uptoBulkEntries {H : Type} : List (Lit × DataW H) → Nat
  | [] => 0
  | x :: r => uptoBulkEntry x + uptoBulkEntries r
def uptoBulkEntry {H : Type} : Lit × DataW H → Nat
  | (.string bytes, d) => bytes.length + uptoBulk d + 1
  | (_, d) => uptoBulk d + 1
 end
def uptoSmall : (H : Type) → List (DataW H) → Bool := fun _ ds => decide (uptoBulkAll ds ≤ 1048576)
def OpenSpec.upto (s : _root_.Go.ChangeSpec) : _root_.Go.OpenSpec := { _root_.Go.OpenSpec.ofChange s with cond := some uptoSmall }

/-- 'laws.FnExactUnionClass', WHERE WHAT IT READS IS OF BULK AT MOST 1048576: true; the input reads as it did. -/
def fnExactUnionClassUptoRow : OpenClaim := { program := "ytpcjecahplglfab", sum := "5d8488877e7769a36efb43f288412b7e7f5640b6f3c430d64abdea7c35432a80", func := "loop.example/shatteredsets/laws.FnExactUnionClass", spec := "fnExactUnionClass", unfollowed := true, recurses := true, apart := false, narrowed := true }
def FnExactUnionClassUptoSaid : Prop := fnExactUnionClassUptoRow.holds Try.pinned (OpenSpec.upto fnExactUnionClassSpec)

/-- 'laws.FnUnionClass', WHERE WHAT IT READS IS OF BULK AT MOST 1048576: true; the input reads as it did. -/
def fnUnionClassUptoRow : OpenClaim := { program := "ytpcjecahplglfab", sum := "5d8488877e7769a36efb43f288412b7e7f5640b6f3c430d64abdea7c35432a80", func := "loop.example/shatteredsets/laws.FnUnionClass", spec := "fnUnionClass", unfollowed := true, recurses := true, apart := false, narrowed := true }
def FnUnionClassUptoSaid : Prop := fnUnionClassUptoRow.holds Try.pinned (OpenSpec.upto fnUnionClassSpec)

/-- 'laws.FnExactMeetClass', WHERE WHAT IT READS IS OF BULK AT MOST 1048576: true; the input reads as it did. -/
def fnExactMeetClassUptoRow : OpenClaim := { program := "ytpcjecahplglfab", sum := "5d8488877e7769a36efb43f288412b7e7f5640b6f3c430d64abdea7c35432a80", func := "loop.example/shatteredsets/laws.FnExactMeetClass", spec := "fnExactMeetClass", unfollowed := true, recurses := true, apart := false, narrowed := true }
def FnExactMeetClassUptoSaid : Prop := fnExactMeetClassUptoRow.holds Try.pinned (OpenSpec.upto fnExactMeetClassSpec)

/-- 'laws.FnMeetClass', WHERE WHAT IT READS IS OF BULK AT MOST 1048576: true; the input reads as it did. -/
def fnMeetClassUptoRow : OpenClaim := { program := "ytpcjecahplglfab", sum := "5d8488877e7769a36efb43f288412b7e7f5640b6f3c430d64abdea7c35432a80", func := "loop.example/shatteredsets/laws.FnMeetClass", spec := "fnMeetClass", unfollowed := true, recurses := true, apart := false, narrowed := true }
def FnMeetClassUptoSaid : Prop := fnMeetClassUptoRow.holds Try.pinned (OpenSpec.upto fnMeetClassSpec)

/-- 'laws.FnComplementClass', WHERE WHAT IT READS IS OF BULK AT MOST 1048576: true; the input reads as it did. -/
def fnComplementClassUptoRow : OpenClaim := { program := "ytpcjecahplglfab", sum := "5d8488877e7769a36efb43f288412b7e7f5640b6f3c430d64abdea7c35432a80", func := "loop.example/shatteredsets/laws.FnComplementClass", spec := "fnComplementClass", unfollowed := true, recurses := true, apart := false, narrowed := true }
def FnComplementClassUptoSaid : Prop := fnComplementClassUptoRow.holds Try.pinned (OpenSpec.upto fnComplementClassSpec)

/-- 'laws.FnExactBallClass', WHERE WHAT IT READS IS OF BULK AT MOST 1048576: true; the input reads as it did. -/
def fnExactBallClassUptoRow : OpenClaim := { program := "ytpcjecahplglfab", sum := "5d8488877e7769a36efb43f288412b7e7f5640b6f3c430d64abdea7c35432a80", func := "loop.example/shatteredsets/laws.FnExactBallClass", spec := "fnExactBallClass", unfollowed := true, recurses := true, apart := false, narrowed := true }
def FnExactBallClassUptoSaid : Prop := fnExactBallClassUptoRow.holds Try.pinned (OpenSpec.upto fnExactBallClassSpec)

/-- 'laws.FnBallClass', WHERE WHAT IT READS IS OF BULK AT MOST 1048576: true; the input reads as it did. -/
def fnBallClassUptoRow : OpenClaim := { program := "ytpcjecahplglfab", sum := "5d8488877e7769a36efb43f288412b7e7f5640b6f3c430d64abdea7c35432a80", func := "loop.example/shatteredsets/laws.FnBallClass", spec := "fnBallClass", unfollowed := true, recurses := true, apart := false, narrowed := true }
def FnBallClassUptoSaid : Prop := fnBallClassUptoRow.holds Try.pinned (OpenSpec.upto fnBallClassSpec)

/-- 'laws.FnExactProductClass', WHERE WHAT IT READS IS OF BULK AT MOST 1048576: true; the input reads as it did. -/
def fnExactProductClassUptoRow : OpenClaim := { program := "ytpcjecahplglfab", sum := "5d8488877e7769a36efb43f288412b7e7f5640b6f3c430d64abdea7c35432a80", func := "loop.example/shatteredsets/laws.FnExactProductClass", spec := "fnExactProductClass", apart := false, narrowed := true }
def FnExactProductClassUptoSaid : Prop := fnExactProductClassUptoRow.holds Try.pinned (OpenSpec.upto fnExactProductClassSpec)

/-- 'laws.FnExactThresholdClass', WHERE WHAT IT READS IS OF BULK AT MOST 1048576: true; the input reads as it did. -/
def fnExactThresholdClassUptoRow : OpenClaim := { program := "ytpcjecahplglfab", sum := "5d8488877e7769a36efb43f288412b7e7f5640b6f3c430d64abdea7c35432a80", func := "loop.example/shatteredsets/laws.FnExactThresholdClass", spec := "fnExactThresholdClass", apart := false, narrowed := true }
def FnExactThresholdClassUptoSaid : Prop := fnExactThresholdClassUptoRow.holds Try.pinned (OpenSpec.upto fnExactThresholdClassSpec)

end Rows
end Go.Proofs.Ytpcjecahplglfab
