/- heldClass: a class whose sets are marked holds its marks. Conditions: Sets reads as the marks. -/
import Derived.Test.YtkamocciaaapmaaDoorZB
namespace Go.Proofs.YtkamocciaaapmaaDoor
open Go.RowKit

set_option maxHeartbeats 400000 in
theorem heldClass (m : Int) (v : Value) (n k : Nat) (w : World) (h : Rd w v (ramp k n)) (hk : k ≤ 2097153) (hn : n ≤ 1048576) :
    Calls Tryd.prog 17 #[.agg #[.int .i64 m, v], .int .i64 k] w fun e w' => e = .returned (.int .i64 ((k + n : Nat) : Int)) ∧ Below w.heap.size w w' := by
  have H := Lib.hid h
  go_enter Tryd.func17, Tryd.ntmps17
  go_wp2_with fail
  refine (heldIntS _ n k _ (H.out.below (k := w.heap.size) (by go_grown) (Nat.le_refl _)) hk hn).mono ?_
  rintro e w' ⟨rfl, rfl⟩
  go_wp2_with fail
  go_ret
  exact ⟨rfl, by go_grown⟩

end Go.Proofs.YtkamocciaaapmaaDoor
