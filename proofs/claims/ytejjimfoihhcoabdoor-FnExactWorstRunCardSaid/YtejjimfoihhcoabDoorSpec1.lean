/- The model's small functions: meet, size, hasInt, tidy, trace. Conditions: sets of at most 5 points, at most 1048576 of them. -/
import Derived.Test.YtejjimfoihhcoabDoorApp
import Derived.Test.YtejjimfoihhcoabDoorPow
namespace Go.Proofs.YtejjimfoihhcoabDoor
open Go.RowKit


/-- points counted so far -/
def pcTo (s k : Nat) : Nat := ((List.range k).map (fun j => s / 2 ^ j % 2)).sum
theorem pcTo_succ (s k : Nat) : pcTo s (k + 1) = pcTo s k + s / 2 ^ k % 2 := by simp [pcTo, List.range_succ]
theorem pcTo_five (s : Nat) : pcTo s 5 = pc s := by simp [pcTo, pc, List.range_succ]; omega
theorem pcTo_done (s k : Nat) (hk : k ≤ 5) (h : s / 2 ^ k = 0) : pcTo s k = pc s := by
  rw [← pcTo_five]
  have : ∀ d, k + d ≤ 5 → pcTo s (k + d) = pcTo s k := by
    intro d
    induction d with
    | zero => intro _; rfl
    | succ d ih =>
      intro hd
      have e : s / 2 ^ (k + d) = 0 := by rw [Nat.pow_add, ← Nat.div_div_eq_div_mul, h]; simp
      rw [show k + (d + 1) = (k + d) + 1 by omega, pcTo_succ, ih (by omega), e]
      simp
  have := this (5 - k) (by omega)
  rw [show k + (5 - k) = 5 by omega] at this
  exact this.symm
theorem pcTo_le (s k : Nat) : pcTo s k ≤ k := by
  induction k with
  | zero => simp [pcTo]
  | succ k ih => rw [pcTo_succ]; have := Nat.mod_lt (s / 2 ^ k) (show 0 < 2 by decide); omega


/-- is x among zs? -/
def hasB (zs : List Int) (x : Int) : Bool := decide (x ∈ zs)
theorem hasB_at {zs : List Int} {x : Int} {k : Nat} (hk : k < zs.length) (h : zs.getD k 0 = x) : hasB zs x = true := by
  simp only [hasB, decide_eq_true_eq]
  rw [← h, List.getD_eq_getElem?_getD, List.getElem?_eq_getElem hk]
  exact List.getElem_mem hk
theorem hasB_none {zs : List Int} {x : Int} (h : ∀ j, j < zs.length → zs.getD j 0 ≠ x) : hasB zs x = false := by
  simp only [hasB, decide_eq_false_iff_not]
  intro hm
  obtain ⟨j, hj, e⟩ := List.getElem_of_mem hm
  apply h j hj
  rw [List.getD_eq_getElem?_getD, List.getElem?_eq_getElem hj]
  exact e


/-- the different numbers of a list, ascending -/
def tidyL (ms : List Nat) : List Nat := flt (fun p => decide (p ∈ ms))

end Go.Proofs.YtejjimfoihhcoabDoor
