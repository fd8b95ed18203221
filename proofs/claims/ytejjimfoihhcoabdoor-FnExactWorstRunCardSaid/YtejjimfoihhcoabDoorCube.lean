/- The program's keysOf and hasCubeAt. Conditions: Sets is a slice of small sets. -/
import Derived.Test.YtejjimfoihhcoabDoorKeys
import Derived.Test.YtejjimfoihhcoabDoorSpec1
import Derived.Carry
namespace Go.Proofs.YtejjimfoihhcoabDoor
open Go.RowKit Go.Maps


/-- is x among the first k of ns? -/
def hasTo (ns : List Nat) (k x : Nat) : Bool := (List.range k).any (fun j => ns.getD j 0 == x)
theorem hasTo_succ (ns : List Nat) (k x : Nat) : hasTo ns (k + 1) x = (decide (x = ns.getD k 0) || hasTo ns k x) := by
  simp only [hasTo, List.range_succ, List.any_append, List.any_cons, List.any_nil, Bool.or_false]
  rw [Bool.or_comm]
  congr 1
  rw [Bool.eq_iff_iff]
  simp
  exact eq_comm
theorem hasTo_all (ns : List Nat) (x : Nat) : hasTo ns ns.length x = decide (x ∈ ns) := by
  rw [Bool.eq_iff_iff]
  simp only [hasTo, List.any_eq_true, List.mem_range, beq_iff_eq, decide_eq_true_eq]
  constructor
  · rintro ⟨j, hj, rfl⟩
    exact getD_of_lt hj
  · intro hm
    obtain ⟨j, hj, e⟩ := List.getElem_of_mem hm
    exact ⟨j, hj, by rw [List.getD_eq_getElem?_getD, List.getElem?_eq_getElem hj]; exact e⟩


/-- are all parts below k of s, put to c, keys? -/
def cubTo (K : Nat → Bool) (c s k : Nat) : Bool := (List.range k).all (fun a => !(a &&& s == a) || K (c ||| a))
theorem cubTo_skip {K : Nat → Bool} {c s k : Nat} (h : ¬ k &&& s = k) : cubTo K c s (k + 1) = cubTo K c s k := by simp [cubTo, List.range_succ, h]
theorem cubTo_yes {K : Nat → Bool} {c s k : Nat} (h : K (c ||| k) = true) : cubTo K c s (k + 1) = cubTo K c s k := by simp [cubTo, List.range_succ, h]
theorem cubTo_no {K : Nat → Bool} {c s k j : Nat} (h : k &&& s = k) (h2 : K (c ||| k) = false) (hj : k < j) : cubTo K c s j = false := by
  rw [← Bool.not_eq_true]
  intro hh
  simp only [cubTo, List.all_eq_true, List.mem_range] at hh
  have := hh k hj
  simp [h, h2] at this


end Go.Proofs.YtejjimfoihhcoabDoor
