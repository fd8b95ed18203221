/- IsRepresentation, the model's. Conditions: Sets and the plan are slices of ints. -/
import Derived.Deep.RegionHeld3
import Derived.Test.YtnoppclajhfnjabDoorRepM
import Derived.Test.YtnoppclajhfnjabDoorZA
import Derived.Test.YtnoppclajhfnjabDoorZB
import Derived.Test.YtnoppclajhfnjabDoorZH
namespace Go.Proofs.YtnoppclajhfnjabDoor
open Go.RowKit

theorem and_or_nil {x a b : Nat} : x &&& (a ||| b) = 0 ↔ x &&& a = 0 ∧ x &&& b = 0 := by
  rw [Nat.and_or_distrib_left, Nat.or_eq_zero_iff]

set_option maxHeartbeats 1600000 in
set_option maxRecDepth 100000 in
theorem specClash (a ra b rb : Nat) (ha : a < 32) (hra : ra < 32) (hb : b < 32) (hrb : rb < 32) (w : World) :
    Calls Tryd.prog 120 #[.int .i64 a, .int .i64 ra, .int .i64 b, .int .i64 rb] w fun e w' => e = .returned (.bool (decide ((a ^^^ b) &&& (ra ||| rb) = 0))) ∧ w' = w := by
  have HF := Lib.hid (fun w => specFlip a b (by omega) (by omega) w)
  have hd : a ^^^ b < 32 := Nat.xor_lt_two_pow (n := 5) ha hb
  have HN := Lib.hid (and_or_nil (x := a ^^^ b) (a := ra) (b := rb))
  generalize a ^^^ b = d at *
  have HM1 := Lib.hid (fun w => specMeet d ra (by omega) (by omega) w)
  have HM2 := Lib.hid (fun w => specMeet d rb (by omega) (by omega) w)
  generalize d &&& (ra ||| rb) = z at *
  generalize d &&& ra = z1 at *
  generalize d &&& rb = z2 at *
  go_enter Tryd.func120, Tryd.ntmps120
  go_wp2_with fail
  refine (HF.out _).mono ?_
  rintro e w1 ⟨rfl, hw1⟩
  subst w1
  go_wp2_with fail
  refine (HM1.out _).mono ?_
  rintro e w1 ⟨rfl, hw1⟩
  subst w1
  by_cases h1 : z1 = 0
  · have h1I : (z1 : Int) = 0 := by omega
    go_wp2_with fail
    refine (HF.out _).mono ?_
    rintro e w1 ⟨rfl, hw1⟩
    subst w1
    go_wp2_with fail
    refine (HM2.out _).mono ?_
    rintro e w1 ⟨rfl, hw1⟩
    subst w1
    by_cases h2 : z2 = 0
    · have h2I : (z2 : Int) = 0 := by omega
      have hz : decide (z = 0) = true := decide_eq_true (HN.out.2 ⟨h1, h2⟩)
      go_wp2_with fail
      go_ret
      exact ⟨ret_bool hz.symm, rfl⟩
    · have h2I : ¬ (z2 : Int) = 0 := by omega
      have hz : decide (z = 0) = false := decide_eq_false (fun h => h2 (HN.out.1 h).2)
      have h2b : ((z2 : Int) == 0) = false := by rw [beq_eq_false_iff_ne]; exact h2I
      go_wp2_with fail
      go_ret
      exact ⟨ret_bool (by first | exact hz.symm | rw [hz, h2b]), rfl⟩
  · have h1I : ¬ (z1 : Int) = 0 := by omega
    have hz : decide (z = 0) = false := decide_eq_false (fun h => h1 (HN.out.1 h).1)
    go_wp2_with fail
    go_ret
    exact ⟨ret_bool hz.symm, rfl⟩



end Go.Proofs.YtnoppclajhfnjabDoor
