/- Numbers of mistakes, by the points that part a class: mathematics. No conditions. -/
import Derived.Test.YthmipnflbiclbaaDoorLittleS
namespace Go.Proofs.YthmipnflbiclbaaDoor
open Go.RowKit

theorem mst_to {l : List Nat} (h : l ≠ []) : mst l = depTo min max 31 l 5 := by rw [mst, if_neg h]; rfl
theorem mst_part {x : Nat} {l : List Nat} (hl : l.length ≤ 32) (h1 : wth x l ≠ []) (h2 : wto x l ≠ []) : mst (wth x l) = dep min max 31 (wth x l) ∧ mst (wto x l) = dep min max 31 (wto x l) := by
  have := split_len x l h1 h2
  exact ⟨mst_ne h1 (by omega), mst_ne h2 (by omega)⟩
theorem mst_max {x : Nat} {l : List Nat} (hx : x < 5) (hl : l.length ≤ 32) (h1 : wth x l ≠ []) (h2 : wto x l ≠ []) : 1 + min (mst (wth x l)) (mst (wto x l)) ≤ mst l := by
  have hne : l ≠ [] := by
    rintro rfl
    exact h1 rfl
  rw [(mst_part hl h1 h2).1, (mst_part hl h1 h2).2, mst_to hne]
  have key : ∀ k, x < k → 1 + min (dep min max 31 (wth x l)) (dep min max 31 (wto x l)) ≤ depTo min max 31 l k := by
    intro k
    induction k with
    | zero => intro h; omega
    | succ k ih =>
      intro h
      have b1 := (dep_bdLo 31 (wth x l)).1
      have b2 := (dep_bdLo 31 (wto x l)).1
      rw [depTo_succ, stp]
      by_cases e : x = k
      · subst e
        rw [if_neg (by simp [h1, h2])]
        split <;> omega
      · have := ih (by omega)
        split
        · exact this
        · split <;> omega
  exact key 5 hx
theorem mst_att {l : List Nat} (k : Nat) (h : 0 < depTo min max 31 l k) : ∃ x, x < k ∧ wth x l ≠ [] ∧ wto x l ≠ [] ∧ depTo min max 31 l k = 1 + min (dep min max 31 (wth x l)) (dep min max 31 (wto x l)) := by
  induction k with
  | zero => simp [depTo] at h
  | succ k ih =>
    rw [depTo_succ, stp] at h ⊢
    by_cases hs : wth k l = [] ∨ wto k l = []
    · rw [if_pos hs] at h ⊢
      obtain ⟨x, hx, r⟩ := ih h
      exact ⟨x, by omega, r⟩
    · rw [if_neg hs] at h ⊢
      have hs' : wth k l ≠ [] ∧ wto k l ≠ [] := by simpa using hs
      by_cases hb : 0 < depTo min max 31 l k
      · rw [if_pos hb]
        by_cases hc : depTo min max 31 l k ≤ 1 + min (dep min max 31 (wth k l)) (dep min max 31 (wto k l))
        · exact ⟨k, by omega, hs'.1, hs'.2, by omega⟩
        · obtain ⟨x, hx, r1, r2, r3⟩ := ih hb
          exact ⟨x, by omega, r1, r2, by omega⟩
      · rw [if_neg hb]
        exact ⟨k, by omega, hs'.1, hs'.2, rfl⟩
theorem mst_nil : mst [] = -1 := by simp [mst]
theorem mst_top (l : List Nat) : -1 ≤ mst l ∧ mst l ≤ 32 := by
  unfold mst
  split
  · omega
  · have := dep_bdLo 32 l
    omega

end Go.Proofs.YthmipnflbiclbaaDoor
