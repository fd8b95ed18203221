/- sizeOf: how many points a set of at most five has. Conditions: the number is below 32. -/
import Derived.Test.YtlkodggaebnkfaaDoorApp
namespace Go.Proofs.YtlkodggaebnkfaaDoor
open Go.RowKit

theorem ones0 (w : World) : Calls Tryd.prog 75 #[.int .u64 0] w fun e w' => e = .returned (.int .i64 0) ∧ w = w' := by
  go_enter Tryd.func75, Tryd.ntmps75
  go_wp2
  go_ret
  exact ⟨by kernel_rfl, rfl⟩
theorem ones1 (w : World) : Calls Tryd.prog 75 #[.int .u64 1] w fun e w' => e = .returned (.int .i64 1) ∧ w = w' := by
  go_enter Tryd.func75, Tryd.ntmps75
  go_wp2
  go_ret
  exact ⟨by kernel_rfl, rfl⟩
theorem ones2 (w : World) : Calls Tryd.prog 75 #[.int .u64 2] w fun e w' => e = .returned (.int .i64 1) ∧ w = w' := by
  go_enter Tryd.func75, Tryd.ntmps75
  go_wp2
  go_ret
  exact ⟨by kernel_rfl, rfl⟩
theorem ones3 (w : World) : Calls Tryd.prog 75 #[.int .u64 3] w fun e w' => e = .returned (.int .i64 2) ∧ w = w' := by
  go_enter Tryd.func75, Tryd.ntmps75
  go_wp2
  go_ret
  exact ⟨by kernel_rfl, rfl⟩
theorem ones4 (w : World) : Calls Tryd.prog 75 #[.int .u64 4] w fun e w' => e = .returned (.int .i64 1) ∧ w = w' := by
  go_enter Tryd.func75, Tryd.ntmps75
  go_wp2
  go_ret
  exact ⟨by kernel_rfl, rfl⟩
theorem ones5 (w : World) : Calls Tryd.prog 75 #[.int .u64 5] w fun e w' => e = .returned (.int .i64 2) ∧ w = w' := by
  go_enter Tryd.func75, Tryd.ntmps75
  go_wp2
  go_ret
  exact ⟨by kernel_rfl, rfl⟩
theorem ones6 (w : World) : Calls Tryd.prog 75 #[.int .u64 6] w fun e w' => e = .returned (.int .i64 2) ∧ w = w' := by
  go_enter Tryd.func75, Tryd.ntmps75
  go_wp2
  go_ret
  exact ⟨by kernel_rfl, rfl⟩
theorem ones7 (w : World) : Calls Tryd.prog 75 #[.int .u64 7] w fun e w' => e = .returned (.int .i64 3) ∧ w = w' := by
  go_enter Tryd.func75, Tryd.ntmps75
  go_wp2
  go_ret
  exact ⟨by kernel_rfl, rfl⟩
theorem ones8 (w : World) : Calls Tryd.prog 75 #[.int .u64 8] w fun e w' => e = .returned (.int .i64 1) ∧ w = w' := by
  go_enter Tryd.func75, Tryd.ntmps75
  go_wp2
  go_ret
  exact ⟨by kernel_rfl, rfl⟩
theorem ones9 (w : World) : Calls Tryd.prog 75 #[.int .u64 9] w fun e w' => e = .returned (.int .i64 2) ∧ w = w' := by
  go_enter Tryd.func75, Tryd.ntmps75
  go_wp2
  go_ret
  exact ⟨by kernel_rfl, rfl⟩
theorem ones10 (w : World) : Calls Tryd.prog 75 #[.int .u64 10] w fun e w' => e = .returned (.int .i64 2) ∧ w = w' := by
  go_enter Tryd.func75, Tryd.ntmps75
  go_wp2
  go_ret
  exact ⟨by kernel_rfl, rfl⟩
theorem ones11 (w : World) : Calls Tryd.prog 75 #[.int .u64 11] w fun e w' => e = .returned (.int .i64 3) ∧ w = w' := by
  go_enter Tryd.func75, Tryd.ntmps75
  go_wp2
  go_ret
  exact ⟨by kernel_rfl, rfl⟩
theorem ones12 (w : World) : Calls Tryd.prog 75 #[.int .u64 12] w fun e w' => e = .returned (.int .i64 2) ∧ w = w' := by
  go_enter Tryd.func75, Tryd.ntmps75
  go_wp2
  go_ret
  exact ⟨by kernel_rfl, rfl⟩
theorem ones13 (w : World) : Calls Tryd.prog 75 #[.int .u64 13] w fun e w' => e = .returned (.int .i64 3) ∧ w = w' := by
  go_enter Tryd.func75, Tryd.ntmps75
  go_wp2
  go_ret
  exact ⟨by kernel_rfl, rfl⟩
theorem ones14 (w : World) : Calls Tryd.prog 75 #[.int .u64 14] w fun e w' => e = .returned (.int .i64 3) ∧ w = w' := by
  go_enter Tryd.func75, Tryd.ntmps75
  go_wp2
  go_ret
  exact ⟨by kernel_rfl, rfl⟩
theorem ones15 (w : World) : Calls Tryd.prog 75 #[.int .u64 15] w fun e w' => e = .returned (.int .i64 4) ∧ w = w' := by
  go_enter Tryd.func75, Tryd.ntmps75
  go_wp2
  go_ret
  exact ⟨by kernel_rfl, rfl⟩
theorem ones16 (w : World) : Calls Tryd.prog 75 #[.int .u64 16] w fun e w' => e = .returned (.int .i64 1) ∧ w = w' := by
  go_enter Tryd.func75, Tryd.ntmps75
  go_wp2
  go_ret
  exact ⟨by kernel_rfl, rfl⟩
theorem ones17 (w : World) : Calls Tryd.prog 75 #[.int .u64 17] w fun e w' => e = .returned (.int .i64 2) ∧ w = w' := by
  go_enter Tryd.func75, Tryd.ntmps75
  go_wp2
  go_ret
  exact ⟨by kernel_rfl, rfl⟩
theorem ones18 (w : World) : Calls Tryd.prog 75 #[.int .u64 18] w fun e w' => e = .returned (.int .i64 2) ∧ w = w' := by
  go_enter Tryd.func75, Tryd.ntmps75
  go_wp2
  go_ret
  exact ⟨by kernel_rfl, rfl⟩
theorem ones19 (w : World) : Calls Tryd.prog 75 #[.int .u64 19] w fun e w' => e = .returned (.int .i64 3) ∧ w = w' := by
  go_enter Tryd.func75, Tryd.ntmps75
  go_wp2
  go_ret
  exact ⟨by kernel_rfl, rfl⟩
theorem ones20 (w : World) : Calls Tryd.prog 75 #[.int .u64 20] w fun e w' => e = .returned (.int .i64 2) ∧ w = w' := by
  go_enter Tryd.func75, Tryd.ntmps75
  go_wp2
  go_ret
  exact ⟨by kernel_rfl, rfl⟩
theorem ones21 (w : World) : Calls Tryd.prog 75 #[.int .u64 21] w fun e w' => e = .returned (.int .i64 3) ∧ w = w' := by
  go_enter Tryd.func75, Tryd.ntmps75
  go_wp2
  go_ret
  exact ⟨by kernel_rfl, rfl⟩
theorem ones22 (w : World) : Calls Tryd.prog 75 #[.int .u64 22] w fun e w' => e = .returned (.int .i64 3) ∧ w = w' := by
  go_enter Tryd.func75, Tryd.ntmps75
  go_wp2
  go_ret
  exact ⟨by kernel_rfl, rfl⟩
theorem ones23 (w : World) : Calls Tryd.prog 75 #[.int .u64 23] w fun e w' => e = .returned (.int .i64 4) ∧ w = w' := by
  go_enter Tryd.func75, Tryd.ntmps75
  go_wp2
  go_ret
  exact ⟨by kernel_rfl, rfl⟩
theorem ones24 (w : World) : Calls Tryd.prog 75 #[.int .u64 24] w fun e w' => e = .returned (.int .i64 2) ∧ w = w' := by
  go_enter Tryd.func75, Tryd.ntmps75
  go_wp2
  go_ret
  exact ⟨by kernel_rfl, rfl⟩
theorem ones25 (w : World) : Calls Tryd.prog 75 #[.int .u64 25] w fun e w' => e = .returned (.int .i64 3) ∧ w = w' := by
  go_enter Tryd.func75, Tryd.ntmps75
  go_wp2
  go_ret
  exact ⟨by kernel_rfl, rfl⟩
theorem ones26 (w : World) : Calls Tryd.prog 75 #[.int .u64 26] w fun e w' => e = .returned (.int .i64 3) ∧ w = w' := by
  go_enter Tryd.func75, Tryd.ntmps75
  go_wp2
  go_ret
  exact ⟨by kernel_rfl, rfl⟩
theorem ones27 (w : World) : Calls Tryd.prog 75 #[.int .u64 27] w fun e w' => e = .returned (.int .i64 4) ∧ w = w' := by
  go_enter Tryd.func75, Tryd.ntmps75
  go_wp2
  go_ret
  exact ⟨by kernel_rfl, rfl⟩
theorem ones28 (w : World) : Calls Tryd.prog 75 #[.int .u64 28] w fun e w' => e = .returned (.int .i64 3) ∧ w = w' := by
  go_enter Tryd.func75, Tryd.ntmps75
  go_wp2
  go_ret
  exact ⟨by kernel_rfl, rfl⟩
theorem ones29 (w : World) : Calls Tryd.prog 75 #[.int .u64 29] w fun e w' => e = .returned (.int .i64 4) ∧ w = w' := by
  go_enter Tryd.func75, Tryd.ntmps75
  go_wp2
  go_ret
  exact ⟨by kernel_rfl, rfl⟩
theorem ones30 (w : World) : Calls Tryd.prog 75 #[.int .u64 30] w fun e w' => e = .returned (.int .i64 4) ∧ w = w' := by
  go_enter Tryd.func75, Tryd.ntmps75
  go_wp2
  go_ret
  exact ⟨by kernel_rfl, rfl⟩
theorem ones31 (w : World) : Calls Tryd.prog 75 #[.int .u64 31] w fun e w' => e = .returned (.int .i64 5) ∧ w = w' := by
  go_enter Tryd.func75, Tryd.ntmps75
  go_wp2
  go_ret
  exact ⟨by kernel_rfl, rfl⟩

theorem ones (s : Nat) (hs : s < 32) (w : World) : Calls Tryd.prog 75 #[.int .u64 (s : Int)] w fun e w' => e = .returned (.int .i64 (pc s : Nat)) ∧ w = w' :=
  match s, hs with
  | 0, _ => ones0 w
  | 1, _ => ones1 w
  | 2, _ => ones2 w
  | 3, _ => ones3 w
  | 4, _ => ones4 w
  | 5, _ => ones5 w
  | 6, _ => ones6 w
  | 7, _ => ones7 w
  | 8, _ => ones8 w
  | 9, _ => ones9 w
  | 10, _ => ones10 w
  | 11, _ => ones11 w
  | 12, _ => ones12 w
  | 13, _ => ones13 w
  | 14, _ => ones14 w
  | 15, _ => ones15 w
  | 16, _ => ones16 w
  | 17, _ => ones17 w
  | 18, _ => ones18 w
  | 19, _ => ones19 w
  | 20, _ => ones20 w
  | 21, _ => ones21 w
  | 22, _ => ones22 w
  | 23, _ => ones23 w
  | 24, _ => ones24 w
  | 25, _ => ones25 w
  | 26, _ => ones26 w
  | 27, _ => ones27 w
  | 28, _ => ones28 w
  | 29, _ => ones29 w
  | 30, _ => ones30 w
  | 31, _ => ones31 w
  | s + 32, h => absurd h (by omega)

set_option maxHeartbeats 400000 in
theorem onesCount (s : Nat) (hs : s < 32) (w : World) : Calls Tryd.prog 69 #[.int .u64 (s : Int)] w fun e w' => e = .returned (.int .i64 (pc s : Nat)) ∧ w = w' := by
  go_enter Tryd.func69, Tryd.ntmps69
  go_wp2_with fail
  refine (ones s hs _).mono ?_
  rintro e w' ⟨rfl, rfl⟩
  go_wp2_with fail
  go_ret
  exact ⟨rfl, rfl⟩
set_option maxHeartbeats 400000 in
theorem implSizeOf (s : Nat) (hs : s < 32) (w : World) : Calls Tryd.prog 59 #[.int .i64 (s : Int)] w fun e w' => e = .returned (.int .i64 (pc s : Nat)) ∧ w = w' := by
  go_enter Tryd.func59, Tryd.ntmps59
  go_wp2_with fail
  refine (onesCount s hs _).mono ?_
  rintro e w' ⟨rfl, rfl⟩
  go_wp2_with fail
  go_ret
  exact ⟨rfl, rfl⟩

end Go.Proofs.YtlkodggaebnkfaaDoor
