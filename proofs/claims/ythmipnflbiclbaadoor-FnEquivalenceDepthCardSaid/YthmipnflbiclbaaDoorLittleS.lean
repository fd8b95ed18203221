/- The model's littlestone. Conditions: sets of n points, at most 32. -/
import Derived.Test.YthmipnflbiclbaaDoorTree
namespace Go.Proofs.YthmipnflbiclbaaDoor
open Go.RowKit

theorem wth_nil {x n : Nat} {l : List Nat} (hl : ∀ t ∈ l, t < 2 ^ n) (hx : n ≤ x) : wth x l = [] := by
  rw [wth, List.filter_eq_nil_iff]
  intro t ht
  have h1 := hl t ht
  have h2 : 2 ^ n ≤ 2 ^ x := Nat.pow_le_pow_right (by omega) hx
  simp only [hasX, decide_eq_true_eq]
  rw [Nat.div_eq_of_lt (by omega)]
  omega
theorem stp_skip {J C : Int → Int → Int} {D : List Nat → Int} {l : List Nat} {b : Int} {x : Nat} (h : wth x l = [] ∨ wto x l = []) : stp J C D l b x = b := by rw [stp, if_pos h]
theorem dep_fuel (J C : Int → Int → Int) (n m : Nat) (l : List Nat) (h1 : l.length ≤ n) (h2 : l.length ≤ m) : dep J C n l = dep J C m l := by
  induction n generalizing m l with
  | zero =>
    have hl := List.eq_nil_of_length_eq_zero (Nat.le_zero.1 h1)
    subst hl
    cases m with
    | zero => rfl
    | succ m => simp [dep, List.range_succ, stp, wth]
  | succ n ih =>
    cases m with
    | zero =>
      have hl := List.eq_nil_of_length_eq_zero (Nat.le_zero.1 h2)
      subst hl
      simp [dep, List.range_succ, stp, wth]
    | succ m =>
      simp only [dep]
      congr 1
      funext b x
      simp only [stp]
      by_cases e : wth x l = [] ∨ wto x l = []
      · rw [if_pos e, if_pos e]
      · have e1 : wth x l ≠ [] := fun h => e (.inl h)
        have e2 : wto x l ≠ [] := fun h => e (.inr h)
        have := split_len x l e1 e2
        rw [if_neg e, if_neg e, ih m (wth x l) (by omega) (by omega), ih m (wto x l) (by omega) (by omega)]
theorem depTo_up (J C : Int → Int → Int) (f : Nat) {n : Nat} {l : List Nat} (hl : ∀ t ∈ l, t < 2 ^ n) (k : Nat) : depTo J C f l (n + k) = depTo J C f l n := by
  induction k with
  | zero => rfl
  | succ k ih => rw [show n + (k + 1) = (n + k) + 1 from rfl, depTo_succ, stp_skip (.inl (wth_nil hl (by omega))), ih]
theorem depTo_end (J C : Int → Int → Int) {n : Nat} (hn : n ≤ 5) {l : List Nat} (hl : ∀ t ∈ l, t < 2 ^ n) : depTo J C 31 l n = dep J C 32 l := by
  have := depTo_up J C 31 hl (5 - n)
  rw [show n + (5 - n) = 5 by omega] at this
  rw [← this]
  rfl
theorem wth_pts {x n : Nat} {l : List Nat} (hl : ∀ t ∈ l, t < 2 ^ n) : ∀ t ∈ wth x l, t < 2 ^ n := fun t ht => hl t (List.mem_filter.1 ht).1
theorem wto_pts {x n : Nat} {l : List Nat} (hl : ∀ t ∈ l, t < 2 ^ n) : ∀ t ∈ wto x l, t < 2 ^ n := fun t ht => hl t (List.mem_filter.1 ht).1
theorem mst_ne {l : List Nat} (h : l ≠ []) (hl : l.length ≤ 31) : mst l = dep min max 31 l := by
  rw [mst, if_neg h]
  exact dep_fuel _ _ _ _ _ (by omega) (by omega)



end Go.Proofs.YthmipnflbiclbaaDoor
