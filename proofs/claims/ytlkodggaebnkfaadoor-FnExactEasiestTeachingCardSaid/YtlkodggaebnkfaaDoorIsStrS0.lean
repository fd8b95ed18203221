/- Is a number among others? No conditions. -/
import Derived.Test.YtlkodggaebnkfaaDoorSpec1
namespace Go.Proofs.YtlkodggaebnkfaaDoor
open Go.RowKit

theorem hasB_nat (ns : List Nat) (z : Nat) : hasB (toI ns) (z : Int) = decide (z ∈ ns) := by
  rw [Bool.eq_iff_iff]
  simp only [hasB, toI, decide_eq_true_eq, List.mem_map]
  constructor
  · rintro ⟨a, ha, e⟩
    have : a = z := by omega
    exact this ▸ ha
  · intro h
    exact ⟨z, h, rfl⟩

end Go.Proofs.YtlkodggaebnkfaaDoor
