/- The model's power and inRange. Conditions: the exponent is 0 to 12. -/
import Derived.Test.YtlkodggaebnkfaaDoorBase
namespace Go.Proofs.YtlkodggaebnkfaaDoor
open Go.RowKit

theorem two_pow_le (k : Nat) (h : k ≤ 12) : (2 : Int) ^ k ≤ 4096 ∧ 1 ≤ (2 : Int) ^ k := by
  have : ∀ k : Fin 13, (2 : Int) ^ (k : Nat) ≤ 4096 ∧ 1 ≤ (2 : Int) ^ (k : Nat) := by decide
  exact this ⟨k, by omega⟩

set_option maxHeartbeats 400000 in
theorem specPower (n : Int) (w : World) (h0 : 0 ≤ n) (h1 : n ≤ 12) :
    Calls Tryd.prog 53 #[.int .i64 n] w fun e w' => e = .returned (.int .i64 (2 ^ n.toNat)) ∧ w = w' := by
  obtain ⟨m, rfl⟩ := Int.eq_ofNat_of_zero_le h0
  rw [Int.toNat_natCast]
  go_enter Tryd.func53, Tryd.ntmps53
  go_wp2
  go_loop [0, 3] (fun i o => ∃ k : Nat, k ≤ m ∧ i = .int .i64 ((m : Int) - k) ∧ o = .int .i64 (2 ^ k)) (fun i _ => (intOf i).toNat)
  case atStart => exact ⟨0, Nat.zero_le _, by simp, rfl⟩
  case round =>
    obtain ⟨k, hk, rfl, rfl⟩ := hrel
    have hp := two_pow_le k (by omega)
    by_cases hlt : k < m
    · have hd : (0 : Int) < (m : Int) - k := by omega
      go_wp2
      go_round
      case rel => exact ⟨k + 1, by omega, by go_num, by rw [Int.pow_succ]; go_num⟩
      case measure => simp [intOf]; omega
    · have hd : ¬ (0 : Int) < (m : Int) - k := by omega
      go_wp2
      go_ret
      obtain rfl : k = m := by omega
      exact ⟨rfl, rfl⟩

set_option maxHeartbeats 400000 in
theorem specInRange (a b c : Int) (w : World) :
    Calls Tryd.prog 60 #[.int .i64 a, .int .i64 b, .int .i64 c] w fun e w' => e = .returned (.bool (decide (b ≤ a) && decide (a ≤ c))) ∧ w = w' := by
  by_cases h : b ≤ a
  · go_enter Tryd.func60, Tryd.ntmps60
    go_wp2
    go_ret
    exact ⟨by simp [h], rfl⟩
  · go_enter Tryd.func60, Tryd.ntmps60
    go_wp2
    go_ret
    exact ⟨by rw [decide_eq_false (show ¬ b ≤ a by omega)]; rfl, rfl⟩

end Go.Proofs.YtlkodggaebnkfaaDoor
