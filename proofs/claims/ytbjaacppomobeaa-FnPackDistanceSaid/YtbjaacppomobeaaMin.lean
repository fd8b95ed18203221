/- The greatest and the least of numbers, the program's (slices.Max, slices.Min) and the model's. Conditions: a slice of ints. -/
import Derived.Test.YtbjaacppomobeaaZA
namespace Go.Proofs.Ytbjaacppomobeaa
open Go.RowKit

/-- the greatest and the least of the first k numbers, -1 for none -/
def gTo (xs : List Int) : Nat → Int
  | 0 => -1
  | k + 1 => if gTo xs k < xs.getD k 0 then xs.getD k 0 else gTo xs k
def sTo (xs : List Int) : Nat → Int
  | 0 => -1
  | k + 1 => if sTo xs k < 0 ∨ xs.getD k 0 < sTo xs k then xs.getD k 0 else sTo xs k
def natural (xs : List Int) : Prop := ∀ k, k < xs.length → 0 ≤ xs.getD k 0
theorem gTo_step (xs : List Int) (k : Nat) : gTo xs (k + 1) = if gTo xs k < xs.getD k 0 then xs.getD k 0 else gTo xs k := rfl
theorem sTo_step (xs : List Int) (k : Nat) : sTo xs (k + 1) = if sTo xs k < 0 ∨ xs.getD k 0 < sTo xs k then xs.getD k 0 else sTo xs k := rfl
theorem gTo_bd {xs : List Int} (h : natural xs) (k : Nat) (hk : k < xs.length) : 0 ≤ gTo xs (k + 1) := by
  have h1 := h k hk
  rw [gTo_step]
  by_cases hc : gTo xs k < xs.getD k 0
  · rw [if_pos hc]; exact h1
  · rw [if_neg hc]; omega
theorem gTo_one {xs : List Int} (h : natural xs) (h0 : 0 < xs.length) : gTo xs 1 = xs.getD 0 0 := by
  have h1 := h 0 h0
  have e : gTo xs 0 = -1 := rfl
  rw [gTo_step, if_pos (by omega)]
theorem sTo_bd {xs : List Int} (h : natural xs) (k : Nat) (hk : k < xs.length) : 0 ≤ sTo xs (k + 1) := by
  have h1 := h k hk
  rw [sTo_step]
  by_cases hc : sTo xs k < 0 ∨ xs.getD k 0 < sTo xs k
  · rw [if_pos hc]; exact h1
  · rw [if_neg hc]; omega
theorem sTo_one (xs : List Int) : sTo xs 1 = xs.getD 0 0 := by
  have e : sTo xs 0 = -1 := rfl
  rw [sTo_step, if_pos (.inl (by omega))]





end Go.Proofs.Ytbjaacppomobeaa
