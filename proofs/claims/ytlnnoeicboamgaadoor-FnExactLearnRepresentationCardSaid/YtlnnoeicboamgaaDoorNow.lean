/- What is left of sets behind examples. No program of its own. -/
import Derived.Test.YtlnnoeicboamgaaDoorKp
import Derived.Test.YtlnnoeicboamgaaDoorSamp
namespace Go.Proofs.YtlnnoeicboamgaaDoor
open Go.RowKit

/-- what is left behind k examples -/
def nowTo (ns : List Nat) (es : List (Int × Bool)) : Nat → List Nat
  | 0 => ns
  | k + 1 => kp (nowTo ns es k) (es.getD k (0, false))
theorem nowTo_sub (ns : List Nat) (es : List (Int × Bool)) (k : Nat) : (∀ t ∈ nowTo ns es k, t ∈ ns) ∧ (nowTo ns es k).length ≤ ns.length := by
  induction k with
  | zero => exact ⟨fun t h => h, Nat.le_refl _⟩
  | succ k ih =>
    refine ⟨fun t h => ih.1 t (List.mem_filter.1 h).1, Nat.le_trans (List.length_filter_le _ _) ih.2⟩
theorem pts_at {n : Int} {es : List (Int × Bool)} (h : ptsTo n es es.length = true) {k : Nat} (hk : k < es.length) : 0 ≤ (es.getD k (0, false)).1 ∧ (es.getD k (0, false)).1 < n := by
  simp only [ptsTo, List.all_eq_true, List.mem_range, Bool.and_eq_true, decide_eq_true_eq] at h
  exact h k hk


end Go.Proofs.YtlnnoeicboamgaaDoor
