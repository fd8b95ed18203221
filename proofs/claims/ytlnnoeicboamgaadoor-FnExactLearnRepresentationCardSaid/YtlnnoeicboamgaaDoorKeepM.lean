/- The first ones of a list that meet a test. No conditions. -/
import Derived.Test.YtlnnoeicboamgaaDoorZA
namespace Go.Proofs.YtlnnoeicboamgaaDoor

theorem take_succ' {ns : List Nat} {k : Nat} (hk : k < ns.length) : ns.take (k + 1) = ns.take k ++ [ns.getD k 0] := by
  rw [List.take_add_one, List.getElem?_eq_getElem hk, List.getD_eq_getElem?_getD, List.getElem?_eq_getElem hk]; rfl
def keepTo (p : Nat → Bool) (ns : List Nat) (k : Nat) : List Nat := (ns.take k).filter p
theorem keepTo_yes {p : Nat → Bool} {ns : List Nat} {k : Nat} (hk : k < ns.length) (h : p (ns.getD k 0) = true) : keepTo p ns (k + 1) = keepTo p ns k ++ [ns.getD k 0] := by
  rw [keepTo, take_succ' hk, List.filter_append, List.filter_cons_of_pos h]; rfl
theorem keepTo_no {p : Nat → Bool} {ns : List Nat} {k : Nat} (hk : k < ns.length) (h : p (ns.getD k 0) = false) : keepTo p ns (k + 1) = keepTo p ns k := by
  rw [keepTo, take_succ' hk, List.filter_append, List.filter_cons_of_neg (fun e => by rw [h] at e; cases e)]; simp [keepTo]
theorem keepTo_le (p : Nat → Bool) (ns : List Nat) (k : Nat) : (keepTo p ns k).length ≤ ns.length := by
  have h1 := List.length_filter_le p (ns.take k)
  have h2 := List.length_take_le k ns
  have h3 : (ns.take k).length ≤ ns.length := by simp; omega
  unfold keepTo
  omega
theorem keepTo_all (p : Nat → Bool) (ns : List Nat) : keepTo p ns ns.length = ns.filter p := by rw [keepTo, List.take_length]

end Go.Proofs.YtlnnoeicboamgaaDoor
