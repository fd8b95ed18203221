/- The program's class of a family. No conditions. -/
import Derived.Test.YtffmcibpboejnaaDoorFamOf
import Derived.Test.YtffmcibpboejnaaDoorZD
namespace Go.Proofs.YtffmcibpboejnaaDoor
open Go.RowKit

theorem fm_test (l : List Nat) {j : Nat} (hj : j < 32) : bits .and .u32 (fm l / 2 ^ j) 1 = if decide (j ∈ l) = true then 1 else 0 := by
  have e1 : fm l / 2 ^ j = ((famB l >>> j).toNat : Int) := by
    rw [BitVec.toNat_ushiftRight, Nat.shiftRight_eq_div_pow, fm]
    simp
  have e2 : (1 : Int) = ((1#32).toNat : Int) := by decide
  rw [e1]
  rw (occs := .pos [1]) [e2]
  rw [u32_and, BitVec.toNat_and, BitVec.toNat_ushiftRight, Nat.shiftRight_eq_div_pow, ← famB_bit l hj, BitVec.getLsbD]
  show (((famB l).toNat / 2 ^ j &&& 1 : Nat) : Int) = _
  rw [Nat.and_one_is_mod, ← Nat.toNat_testBit]
  cases (famB l).toNat.testBit j <;> rfl


end Go.Proofs.YtffmcibpboejnaaDoor
