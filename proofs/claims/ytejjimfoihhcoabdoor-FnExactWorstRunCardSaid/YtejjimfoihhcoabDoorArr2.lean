/- The program's isSetOf, traceMarks, list, TraceOf. Conditions: Sets is a slice of ints. -/
import Derived.Test.YtejjimfoihhcoabDoorArr
import Derived.Test.YtejjimfoihhcoabDoorCls
namespace Go.Proofs.YtejjimfoihhcoabDoor
open Go.RowKit

/-- isSetOf's answer -/
def inB (n : Int) (zs : List Int) (s : Int) : Bool := vldB n zs && setB n.toNat s





/-- the parts of a set, marked -/
def partTo (s k p : Nat) : Bool := decide (p < k) && (p &&& s == p)
theorem partTo_succ (s k p : Nat) : partTo s (k + 1) p = if p = k then (k &&& s == k) else partTo s k p := by
  unfold partTo
  by_cases h : p = k
  · subst h; simp
  · rw [if_neg h, show decide (p < k + 1) = decide (p < k) by rw [decide_eq_decide]; omega]


end Go.Proofs.YtejjimfoihhcoabDoor
