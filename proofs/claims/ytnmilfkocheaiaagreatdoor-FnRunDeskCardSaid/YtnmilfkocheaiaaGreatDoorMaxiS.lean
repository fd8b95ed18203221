/- The model's IsMaximum. Conditions: Sets is a slice of ints. -/
import Derived.Test.YtnmilfkocheaiaaGreatDoorMaxiS1
import Derived.Test.YtnmilfkocheaiaaGreatDoorMaxiS2
namespace Go.Proofs.YtnmilfkocheaiaaGreatDoor
open Go.RowKit

theorem specIsMaximum (n : Int) (v : Value) (zs : List Int) (w : World) (h : Rd w v zs) :
    Calls Tryz.prog 36 #[.agg #[.int .i64 n, v]] w fun e w' => e = .returned (.bool (maxB n zs)) ∧ Below w.heap.size w w' := by
  by_cases hv : vldB n zs = true
  · exact specIsMaximumA n v zs w h hv
  · rw [Bool.not_eq_true] at hv
    exact specIsMaximumB n v zs w h hv

end Go.Proofs.YtnmilfkocheaiaaGreatDoor
