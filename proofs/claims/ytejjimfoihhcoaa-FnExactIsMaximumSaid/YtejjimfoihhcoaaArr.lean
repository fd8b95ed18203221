/- The program's arrays of 32 marks: traceMarks, partMarks, list. Conditions: sets of at most 5 points. -/
import Derived.Test.YtejjimfoihhcoaaApp
import Derived.Test.YtejjimfoihhcoaaVal
namespace Go.Proofs.Ytejjimfoihhcoaa
open Go.RowKit

theorem infoM : (Try.prog.info? 75).map (·.size) = some 32 := by kernel_rfl

/-- block b holds the marks bs -/
def Arr (w : World) (b : Nat) (bs : List Bool) : Prop := bs.length = 32 ∧ w.heap[b]? = some (.cells (bs.map Value.bool).toArray 75 (0, 0))
theorem Arr.cell {w : World} {b : Nat} {bs : List Bool} (h : Arr w b bs) (j : Nat) (hj : j < 32) : w.cell? ⟨b, j, none⟩ = some (.bool (bs.getD j false)) ∧ w.frozen? ⟨b, j, none⟩ = false := by
  refine ⟨?_, frozen_of_row w b j _ _ h.2⟩
  rw [cell_of_row w b j _ _ _ h.2]
  have : j < bs.length := by rw [h.1]; exact hj
  simp [List.getD, this]
theorem Arr.set {w : World} {b : Nat} {bs : List Bool} (h : Arr w b bs) (j : Nat) (x : Bool) : Arr (w.setCell ⟨b, j, none⟩ (.bool x)) b (bs.set j x) := by
  refine ⟨by simpa using h.1, ?_⟩
  rw [heap_setCell_same w b j _ _ _ h.2]
  simp [List.map_set]
/-- which sets are marked -/
def markL (p : Nat → Bool) : List Bool := (List.range 32).map p
theorem markL_length (p : Nat → Bool) : (markL p).length = 32 := by simp [markL]
theorem markL_getD (p : Nat → Bool) (j : Nat) (hj : j < 32) : (markL p).getD j false = p j := by simp [markL, List.getD, hj]
theorem markL_congr {p q : Nat → Bool} (h : ∀ x, x < 32 → p x = q x) : markL p = markL q := by
  apply List.map_congr_left
  intro x hx
  exact h x (List.mem_range.1 hx)
theorem markL_set (p : Nat → Bool) (j : Nat) (x : Bool) : (markL p).set j x = markL (fun y => if y = j then x else p y) := by
  apply List.ext_getElem?
  intro y
  rw [List.getElem?_set]
  simp only [markL, List.length_map, List.length_range, List.getElem?_map]
  by_cases hy : y < 32
  · by_cases e : j = y
    · subst e; simp [hy]
    · simp [e, hy, show ¬ y = j from fun h => e h.symm]
  · by_cases e : j = y
    · subst e; simp [hy]
    · simp [e, hy]
/-- the parts that sets have in common with one, marked -/
def trTo (ns : List Nat) (s k p : Nat) : Bool := (ns.take k).any (fun t => t &&& s == p)
theorem trTo_succ (ns : List Nat) (s k : Nat) (hk : k < ns.length) (p : Nat) : trTo ns s (k + 1) p = if p = (ns.getD k 0) &&& s then true else trTo ns s k p := by
  have e : ns.take (k + 1) = ns.take k ++ [ns.getD k 0] := by
    rw [List.take_add_one, List.getElem?_eq_getElem hk, List.getD_eq_getElem?_getD, List.getElem?_eq_getElem hk]; rfl
  simp only [trTo, e, List.any_append, List.any_cons, List.any_nil, Bool.or_false]
  by_cases h : p = (ns.getD k 0) &&& s
  · rw [if_pos h, h]; simp
  · rw [if_neg h]
    have : ((ns.getD k 0) &&& s == p) = false := by simpa using fun e => h e.symm
    rw [this, Bool.or_false]

end Go.Proofs.Ytejjimfoihhcoaa
