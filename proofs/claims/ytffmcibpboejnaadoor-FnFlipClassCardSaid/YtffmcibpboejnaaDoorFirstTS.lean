/- FirstTeaching and TeachingNumber, the model's. Conditions: Sets is a slice of ints. -/
import Derived.Test.YtffmcibpboejnaaDoorFirstT
namespace Go.Proofs.YtffmcibpboejnaaDoor
open Go.RowKit

theorem bst_lt {p : Nat → Bool} {m : Nat} (k : Nat) (hk : k ≤ 2 ^ m) : bstN p (2 ^ m - 1) k < 2 ^ m := by
  have hp := Nat.two_pow_pos m
  induction k with
  | zero => show 2 ^ m - 1 < 2 ^ m; omega
  | succ k ih =>
    rw [bstN_succ]
    split
    · omega
    · exact ih (by omega)





end Go.Proofs.YtffmcibpboejnaaDoor
