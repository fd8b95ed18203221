/- The least ones of a list: mathematics. No conditions. -/
import Derived.Test.YtnoppclajhfnjaaDoorZA
namespace Go.Proofs.YtnoppclajhfnjaaDoor

/-- one more value: the list of the least so far, and their measure -/
def lstep (μ : Nat → Int) (a : List Nat × Int) (v : Nat) : List Nat × Int :=
  if a.1 = [] ∨ μ v < a.2 then ([v], μ v) else if μ v = a.2 then (a.1 ++ [v], a.2) else a
def lmn (μ : Nat → Int) (xs : List Nat) : List Nat × Int := xs.foldl (lstep μ) ([], 0)
theorem lmn_nil (μ : Nat → Int) : lmn μ [] = ([], 0) := rfl
theorem lmn_snoc (μ : Nat → Int) (xs : List Nat) (v : Nat) : lmn μ (xs ++ [v]) = lstep μ (lmn μ xs) v := by simp [lmn]
def LGood (μ : Nat → Int) (pre : List Nat) (a : List Nat × Int) : Prop :=
  (pre = [] ∧ a = ([], 0)) ∨ (a.1 ≠ [] ∧ a.1 = pre.filter (fun v => decide (μ v = a.2)) ∧ ∀ v ∈ pre, a.2 ≤ μ v)
theorem lgood_step {μ : Nat → Int} {pre : List Nat} {a : List Nat × Int} (h : LGood μ pre a) (v : Nat) : LGood μ (pre ++ [v]) (lstep μ a v) := by
  right
  rcases h with ⟨rfl, rfl⟩ | ⟨h1, h2, h3⟩
  · simp [lstep]
  · by_cases hl : μ v < a.2
    · rw [lstep, if_pos (.inr hl)]
      refine ⟨by simp, ?_, fun u hu => ?_⟩
      · show [v] = _
        rw [List.filter_append, List.filter_eq_nil_iff.2 (fun u hu => by have := h3 u hu; simp; omega)]
        simp
      · rcases List.mem_append.1 hu with hu | hu
        · have := h3 u hu
          show μ v ≤ μ u
          omega
        · rw [List.mem_singleton.1 hu]; exact Int.le_refl _
    · by_cases he : μ v = a.2
      · rw [lstep, if_neg (by rintro (e | e); exact h1 e; exact hl e), if_pos he]
        refine ⟨by simp, ?_, fun u hu => ?_⟩
        · show a.1 ++ [v] = _
          rw [List.filter_append, ← h2]
          simp [he]
        · rcases List.mem_append.1 hu with hu | hu
          · exact h3 u hu
          · rw [List.mem_singleton.1 hu]; show a.2 ≤ μ v; omega
      · rw [lstep, if_neg (by rintro (e | e); exact h1 e; exact hl e), if_neg he]
        refine ⟨h1, ?_, fun u hu => ?_⟩
        · rw [List.filter_append, ← h2]
          simp [he]
        · rcases List.mem_append.1 hu with hu | hu
          · exact h3 u hu
          · rw [List.mem_singleton.1 hu]; omega
theorem lgood_fold {μ : Nat → Int} : ∀ (xs : List Nat) (pre : List Nat) (a : List Nat × Int), LGood μ pre a → LGood μ (pre ++ xs) (xs.foldl (lstep μ) a)
  | [], pre, a, h => by simpa using h
  | x :: xs, pre, a, h => by
    have := lgood_fold xs (pre ++ [x]) (lstep μ a x) (lgood_step h x)
    simpa using this
theorem lmn_good (μ : Nat → Int) (xs : List Nat) : LGood μ xs (lmn μ xs) := by
  have := lgood_fold (μ := μ) xs [] ([], 0) (.inl ⟨rfl, rfl⟩)
  simpa [lmn] using this
theorem lmn_len (μ : Nat → Int) (xs : List Nat) : (lmn μ xs).1.length ≤ xs.length := by
  rcases lmn_good μ xs with ⟨_, h⟩ | ⟨_, h, _⟩
  · rw [h]; simp
  · rw [h]; exact List.length_filter_le _ _
theorem lmn_ne {μ : Nat → Int} {xs : List Nat} (h : xs ≠ []) : (lmn μ xs).1 ≠ [] := by
  rcases lmn_good μ xs with ⟨e, _⟩ | ⟨h, _⟩
  · exact absurd e h
  · exact h
theorem lmn_sub {μ : Nat → Int} {xs : List Nat} {v : Nat} (h : v ∈ (lmn μ xs).1) : v ∈ xs := by
  rcases lmn_good μ xs with ⟨_, e⟩ | ⟨_, e, _⟩
  · rw [e] at h; simp at h
  · rw [e] at h; exact (List.mem_filter.1 h).1

end Go.Proofs.YtnoppclajhfnjaaDoor
