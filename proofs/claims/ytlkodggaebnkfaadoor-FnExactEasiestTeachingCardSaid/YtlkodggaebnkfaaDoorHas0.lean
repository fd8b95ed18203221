/- The model's has. No conditions. -/
import Derived.Test.YtlkodggaebnkfaaDoorValS
namespace Go.Proofs.YtlkodggaebnkfaaDoor
open Go.RowKit

/-- is the point x in the set s? -/
def hasX (x s : Nat) : Bool := decide (s / 2 ^ x % 2 = 1)

set_option maxHeartbeats 800000 in
theorem specHas (s x : Nat) (hs : s < 4096) (hx : x < 5) (w : World) :
    Calls Tryd.prog 54 #[.int .i64 (s : Int), .int .i64 (x : Int)] w fun e w' => e = .returned (.bool (hasX x s)) ∧ w' = w := by
  have HQ := Lib.hid (show (s : Int) / (2 : Int) ^ x = ((s / 2 ^ x : Nat) : Int) by simp)
  have hr : s / 2 ^ x < 4096 := Nat.lt_of_le_of_lt (Nat.div_le_self _ _) hs
  have HE := Lib.hid (show hasX x s = decide (s / 2 ^ x % 2 = 1) from rfl)
  have hp := two_pow_le x (by omega)
  go_enter Tryd.func54, Tryd.ntmps54
  go_wp2_with fail
  refine (power_q x (by omega) _).mono ?_
  rintro e w1 ⟨rfl, rfl⟩
  generalize (2 : Int) ^ x = q at *
  generalize s / 2 ^ x = r at *
  have hne : q ≠ 0 := by omega
  go_wp2_with fail
  go_ret
  exact ⟨ret_bool (by
    rw [HE.out, HQ.out, show wrap64 (r : Int) = r by simp only [wrap64]; omega, Int.tmod_eq_emod_of_nonneg (by omega), Bool.eq_iff_iff]
    simp
    omega), rfl⟩

end Go.Proofs.YtlkodggaebnkfaaDoor
