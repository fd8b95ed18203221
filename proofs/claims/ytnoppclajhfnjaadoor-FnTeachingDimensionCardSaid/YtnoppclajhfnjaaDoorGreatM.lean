/- The greatest and the least of numbers: mathematics. No conditions. -/
import Derived.Test.YtnoppclajhfnjaaDoorTDim
namespace Go.Proofs.YtnoppclajhfnjaaDoor
open Go.RowKit

theorem gTo_ge (xs : List Int) : ∀ k j, j < k → xs.getD j 0 ≤ gTo xs k
  | 0, j, h => by omega
  | k + 1, j, h => by
    rw [gTo_step]
    by_cases hc : gTo xs k < xs.getD k 0
    · rw [if_pos hc]
      by_cases e : j = k
      · rw [e]; exact Int.le_refl _
      · have := gTo_ge xs k j (by omega)
        omega
    · rw [if_neg hc]
      by_cases e : j = k
      · rw [e]; omega
      · exact gTo_ge xs k j (by omega)
theorem gTo_mem {xs : List Int} (h : natural xs) : ∀ k, 0 < k → k ≤ xs.length → ∃ j, j < k ∧ gTo xs k = xs.getD j 0
  | 0, h0, _ => by omega
  | k + 1, _, hk => by
    rw [gTo_step]
    by_cases hc : gTo xs k < xs.getD k 0
    · rw [if_pos hc]; exact ⟨k, by omega, rfl⟩
    · rw [if_neg hc]
      by_cases e : k = 0
      · subst e
        have h1 := h 0 (by omega)
        have h2 : gTo xs 0 = -1 := rfl
        omega
      · obtain ⟨j, hj, e⟩ := gTo_mem h k (by omega) (by omega)
        exact ⟨j, by omega, e⟩
theorem sTo_le {xs : List Int} (h : natural xs) : ∀ k j, j < k → k ≤ xs.length → sTo xs k ≤ xs.getD j 0
  | 0, j, hj, _ => by omega
  | k + 1, j, hj, hk => by
    rw [sTo_step]
    by_cases hc : sTo xs k < 0 ∨ xs.getD k 0 < sTo xs k
    · rw [if_pos hc]
      by_cases e : j = k
      · rw [e]; exact Int.le_refl _
      · have h1 := sTo_le h k j (by omega) (by omega)
        have h2 := sTo_bd h (k - 1) (by omega)
        rw [show k - 1 + 1 = k by omega] at h2
        rcases hc with hc | hc <;> omega
    · rw [if_neg hc]
      by_cases e : j = k
      · rw [e]
        apply Classical.byContradiction
        intro h9
        exact hc (.inr (by omega))
      · exact sTo_le h k j (by omega) (by omega)
theorem sTo_mem {xs : List Int} : ∀ k, 0 < k → k ≤ xs.length → ∃ j, j < k ∧ sTo xs k = xs.getD j 0
  | 0, h0, _ => by omega
  | k + 1, _, hk => by
    rw [sTo_step]
    by_cases hc : sTo xs k < 0 ∨ xs.getD k 0 < sTo xs k
    · rw [if_pos hc]; exact ⟨k, by omega, rfl⟩
    · rw [if_neg hc]
      by_cases e : k = 0
      · subst e
        have h2 : sTo xs 0 = -1 := rfl
        exact absurd (.inl (by omega)) hc
      · obtain ⟨j, hj, e⟩ := sTo_mem (xs := xs) k (by omega) (by omega)
        exact ⟨j, by omega, e⟩
theorem hasB_getD {xs : List Int} {j : Nat} (hj : j < xs.length) {y : Int} (h : y = xs.getD j 0) : hasB xs y = true := hasB_at hj h.symm

end Go.Proofs.YtnoppclajhfnjaaDoor
