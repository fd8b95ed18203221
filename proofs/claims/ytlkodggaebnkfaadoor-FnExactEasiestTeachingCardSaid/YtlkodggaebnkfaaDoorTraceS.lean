/- The model's validSet, TraceOf, shatters, IsShattered. Conditions: Sets is a slice of ints. -/
import Derived.Test.YtlkodggaebnkfaaDoorTrace
import Derived.Test.YtlkodggaebnkfaaDoorCls
namespace Go.Proofs.YtlkodggaebnkfaaDoor
open Go.RowKit

set_option maxHeartbeats 400000 in
theorem specValidSet (n : Nat) (hn : n ≤ 5) (v : Value) (s : Int) (w : World) :
    Calls Tryd.prog 36 #[.agg #[.int .i64 n, v], .int .i64 s] w fun e w' => e = .returned (.bool (setB n s)) ∧ Below w.heap.size w w' := by
  have hp := two_pow_le n (by omega)
  go_enter Tryd.func36, Tryd.ntmps36
  go_wp2_with fail
  refine (power_q n hn _).mono ?_
  rintro e w' ⟨rfl, rfl⟩
  have HE := Lib.hid (show setB n s = (decide ((0 : Int) ≤ s) && decide (s ≤ 2 ^ n - 1)) by
    rw [setB]; congr 1; rw [decide_eq_decide]; omega)
  generalize (2 : Int) ^ n = q at *
  go_wp2_with fail
  refine (specInRange _ _ _ _).mono ?_
  rintro e w' ⟨rfl, rfl⟩
  rw [← HE.out]
  go_wp2_with fail
  go_ret
  exact ⟨rfl, by go_grown⟩


end Go.Proofs.YtlkodggaebnkfaaDoor
