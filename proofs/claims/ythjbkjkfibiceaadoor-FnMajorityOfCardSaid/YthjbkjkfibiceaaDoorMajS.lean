/- The model's MajorityOf. Conditions: Sets is a slice of ints. -/
import Derived.Test.YthjbkjkfibiceaaDoorMajS1
import Derived.Test.YthjbkjkfibiceaaDoorMajS2
import Derived.Test.YthjbkjkfibiceaaDoorMajS3
namespace Go.Proofs.YthjbkjkfibiceaaDoor
open Go.RowKit

theorem specMajorityOf (n : Int) (v : Value) (zs : List Int) (x : Int) (w : World) (h : Rd w v zs) :
    Calls Tryd.prog 31 #[.agg #[.int .i64 n, v], .int .i64 x] w fun e w' => e = .returned (.bool (majB n zs x)) ∧ Below w.heap.size w w' := by
  by_cases hp : ptB n zs x = true
  · exact specMajorityOfA n v zs x w h hp
  · rw [Bool.not_eq_true] at hp
    by_cases hv : vldB n zs = true
    · exact specMajorityOfB n v zs x w h hp hv
    · rw [Bool.not_eq_true] at hv
      exact specMajorityOfC n v zs x w h hp hv

end Go.Proofs.YthjbkjkfibiceaaDoor
