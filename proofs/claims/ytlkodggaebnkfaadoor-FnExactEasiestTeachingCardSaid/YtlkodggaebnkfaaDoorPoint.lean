/- The program's isPointOf. Conditions: Sets is a slice of ints. -/
import Derived.Test.YtlkodggaebnkfaaDoorArr
import Derived.Test.YtlkodggaebnkfaaDoorCls
namespace Go.Proofs.YtlkodggaebnkfaaDoor
open Go.RowKit

/-- isPointOf's answer -/
def ptB (n : Int) (zs : List Int) (x : Int) : Bool := vldB n zs && (decide (0 ≤ x) && decide (x < n))
theorem ptB_nat {n : Int} {zs : List Int} {x : Int} (h : ptB n zs x = true) : ∃ (m y : Nat) (ns : List Nat), n = m ∧ x = y ∧ zs = toI ns ∧ Cls m ns ∧ y < m ∧ m ≤ 5 ∧ vldB m (toI ns) = true := by
  simp only [ptB, Bool.and_eq_true, decide_eq_true_eq] at h
  obtain ⟨h0, h1, h2⟩ := h
  obtain ⟨m, ns, rfl, rfl, hc⟩ := vldB_cls h0
  obtain ⟨y, rfl⟩ := Int.eq_ofNat_of_zero_le h1
  exact ⟨m, y, ns, rfl, rfl, rfl, hc, by omega, hc.pts, h0⟩


end Go.Proofs.YtlkodggaebnkfaaDoor
