/- An array of 32 counts, and how often sets are counted. No conditions. -/
import Derived.Test.YtpcjecahplglfabZA
import Derived.Test.YtpcjecahplglfabZH
namespace Go.Proofs.Ytpcjecahplglfab
open Go.RowKit

/-- block b holds the counts f -/
def ArrI (w : World) (b : Nat) (f : Nat → Int) : Prop := w.heap[b]? = some (.cells (((List.range 32).map fun x => Value.int .i64 (f x))).toArray 68 (0, 0))
theorem ArrI.cell {w : World} {b : Nat} {f : Nat → Int} (h : ArrI w b f) (j : Nat) (hj : j < 32) : w.cell? ⟨b, j, none⟩ = some (.int .i64 (f j)) ∧ w.frozen? ⟨b, j, none⟩ = false := by
  refine ⟨?_, frozen_of_row w b j _ _ h⟩
  rw [cell_of_row w b j _ _ _ h]
  simp [hj]
theorem ArrI.lt {w : World} {b : Nat} {f : Nat → Int} (h : ArrI w b f) : b < w.heap.size := (Array.getElem?_eq_some_iff.1 h).1
theorem ArrI.set {w : World} {b : Nat} {f : Nat → Int} (h : ArrI w b f) (j : Nat) (y : Int) : ArrI (w.setCell ⟨b, j, none⟩ (.int .i64 y)) b (fun x => if x = j then y else f x) := by
  unfold ArrI
  rw [heap_setCell_same w b j _ _ _ h]
  congr 2
  apply Array.ext'
  simp only [Array.toList_setIfInBounds]
  apply List.ext_getElem?
  intro i
  rw [List.getElem?_set]
  simp only [List.length_map, List.length_range, List.getElem?_map]
  by_cases hi : i < 32
  · by_cases e : j = i
    · subst e; simp [hi]
    · simp [e, hi, show ¬ i = j from fun h => e h.symm]
  · by_cases e : j = i
    · subst e; simp [hi]
    · simp [e, hi]
theorem ArrI.next {w w' : World} {b B : Nat} {f : Nat → Int} (h : ArrI w b f) (hb : Below B w w') (hB : b < B) : ArrI w' b f := (hb.block b hB).trans h
theorem ArrI.other {w : World} {b p j : Nat} {f : Nat → Int} (h : ArrI w b f) (hne : b ≠ p) (u : Value) : ArrI (w.setCell ⟨p, j, none⟩ u) b f := by
  unfold ArrI
  rw [Below.heap_setCell _ _ _ _ hne]
  exact h
theorem ArrI.congr {w : World} {b : Nat} {f g : Nat → Int} (h : ArrI w b f) (he : ∀ x, x < 32 → f x = g x) : ArrI w b g := by
  have e : ((List.range 32).map fun x => Value.int .i64 (f x)) = ((List.range 32).map fun x => Value.int .i64 (g x)) := List.map_congr_left (fun x hx => by rw [he x (List.mem_range.1 hx)])
  unfold ArrI
  rw [← e]
  exact h
theorem arrI_zero {w : World} {H : Nat} (hH : w.heap.size = H) : ArrI (w.alloc (.cells #[.int .i64 0, .int .i64 0, .int .i64 0, .int .i64 0, .int .i64 0, .int .i64 0, .int .i64 0, .int .i64 0, .int .i64 0, .int .i64 0, .int .i64 0, .int .i64 0, .int .i64 0, .int .i64 0, .int .i64 0, .int .i64 0, .int .i64 0, .int .i64 0, .int .i64 0, .int .i64 0, .int .i64 0, .int .i64 0, .int .i64 0, .int .i64 0, .int .i64 0, .int .i64 0, .int .i64 0, .int .i64 0, .int .i64 0, .int .i64 0, .int .i64 0, .int .i64 0] 68)) H (fun _ => 0) := heap_alloc_at hH

/-- the counts behind the first k sets -/
def mkTo (f : Nat → Int) (ns : List Nat) : Nat → (Nat → Int)
  | 0 => f
  | k + 1 => fun x => if x = ns.getD k 0 then mkTo f ns k (ns.getD k 0) + 1 else mkTo f ns k x
theorem mkTo_bd (f : Nat → Int) (ns : List Nat) (h : ∀ x, 0 ≤ f x ∧ f x ≤ 32) : ∀ k x, 0 ≤ mkTo f ns k x ∧ mkTo f ns k x ≤ 32 + k
  | 0, x => by have := h x; show 0 ≤ f x ∧ f x ≤ 32 + 0; omega
  | k + 1, x => by
    have h1 := mkTo_bd f ns h k (ns.getD k 0)
    have h2 := mkTo_bd f ns h k x
    show 0 ≤ (if x = ns.getD k 0 then mkTo f ns k (ns.getD k 0) + 1 else mkTo f ns k x) ∧ (if x = ns.getD k 0 then mkTo f ns k (ns.getD k 0) + 1 else mkTo f ns k x) ≤ 32 + ((k + 1 : Nat) : Int)
    split <;> omega
/-- each set is counted once more -/
theorem mkTo_at (f : Nat → Int) {ns : List Nat} (h : ns.Pairwise (· < ·)) : ∀ k, k ≤ ns.length → ∀ x, mkTo f ns k x = f x + (if x ∈ ns.take k then 1 else 0)
  | 0, _, x => by simp [mkTo]
  | k + 1, hk, x => by
    have h1 := mkTo_at f h k (by omega)
    have ht : ns.take (k + 1) = ns.take k ++ [ns.getD k 0] := by
      rw [List.take_succ_eq_append_getElem (by omega), List.getD_eq_getElem?_getD, List.getElem?_eq_getElem (by omega)]; rfl
    have hnot : ns.getD k 0 ∉ ns.take k := by
      intro hm
      have hp : (ns.take (k + 1)).Pairwise (· < ·) := h.sublist (List.take_sublist _ _)
      rw [ht, List.pairwise_append] at hp
      have := hp.2.2 _ hm _ (List.mem_singleton.2 rfl)
      omega
    show (if x = ns.getD k 0 then mkTo f ns k (ns.getD k 0) + 1 else mkTo f ns k x) = _
    rw [ht]
    by_cases e : x = ns.getD k 0
    · rw [if_pos e, h1, if_neg hnot, e, if_pos (by simp)]; omega
    · have hi : (x ∈ ns.take k ++ [ns.getD k 0]) ↔ x ∈ ns.take k := by
        rw [List.mem_append, List.mem_singleton]
        exact ⟨fun h => h.resolve_right e, .inl⟩
      rw [if_neg e, h1]
      by_cases hx : x ∈ ns.take k
      · rw [if_pos hx, if_pos (hi.2 hx)]
      · rw [if_neg hx, if_neg (fun h => hx (hi.1 h))]
/-- how many of two classes have a set -/
def cnt2 (xs ys : List Nat) (x : Nat) : Int := (if x ∈ xs then 1 else 0) + (if x ∈ ys then 1 else 0)
theorem mk_two {xs ys : List Nat} (ha : xs.Pairwise (· < ·)) (hb : ys.Pairwise (· < ·)) (x : Nat) : mkTo (mkTo (fun _ => 0) xs xs.length) ys ys.length x = cnt2 xs ys x := by
  rw [mkTo_at _ hb _ (Nat.le_refl _), mkTo_at _ ha _ (Nat.le_refl _), List.take_length, List.take_length, cnt2]
  omega
theorem mk_one {xs : List Nat} (ha : xs.Pairwise (· < ·)) (x : Nat) : 0 ≤ mkTo (fun _ => 0) xs xs.length x ∧ mkTo (fun _ => 0) xs xs.length x ≤ 32 := by
  rw [mkTo_at _ ha _ (Nat.le_refl _)]
  split <;> omega

end Go.Proofs.Ytpcjecahplglfab
