/- The model's fits. Conditions: the set is small, the point is below 5. -/
import Derived.Test.YtlnnoeicboamgaaDoorZH
namespace Go.Proofs.YtlnnoeicboamgaaDoor
open Go.RowKit

set_option maxHeartbeats 800000 in
theorem specFits (s x : Nat) (l : Bool) (hs : s < 32) (hx : x < 5) (w : World) :
    Calls Tryd.prog 91 #[.int .i64 (s : Int), .agg #[.int .i64 (x : Int), .bool l]] w fun e w' => e = .returned (.bool (hasX x s == l)) ∧ Below w.heap.size w w' := by
  have HH := Lib.hid (fun w => specHas s x (by omega) hx w)
  generalize hasX x s = h at *
  go_enter Tryd.func91, Tryd.ntmps91
  go_wp2_with fail
  go_quiet ((go_at_call 40; exact Calls.quiet_of_same (HH.out _)))
  go_wp2_with fail
  go_ret
  exact ⟨rfl, below_drewN (by go_grown) nq⟩

end Go.Proofs.YtlnnoeicboamgaaDoor
