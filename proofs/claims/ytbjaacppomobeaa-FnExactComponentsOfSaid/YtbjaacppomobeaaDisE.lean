/- DistanceIn: one number, the program's and the model's. Conditions: Sets is a slice of ints. -/
import Derived.Test.YtbjaacppomobeaaDisD
namespace Go.Proofs.Ytbjaacppomobeaa
open Go.RowKit

theorem least_of (P : Nat → Prop) : ∀ n, P n → ∃ k, P k ∧ ∀ j, P j → k ≤ j := by
  intro n
  induction n using Nat.strongRecOn with
  | ind n ih =>
    intro hn
    by_cases h : ∃ j, j < n ∧ P j
    · obtain ⟨j, hj, hp⟩ := h
      exact ih j hj hp
    · exact ⟨n, hn, fun j hj => Nat.le_of_not_lt (fun hlt => h ⟨j, hlt, hj⟩)⟩
theorem dst_ex (R : Nat → Nat → Prop) (s t : Nat) : ∃ d, Dst R s t d := by
  by_cases h : ∃ k, Pth R s k t
  · obtain ⟨k, hk⟩ := h
    obtain ⟨l, h1, h2⟩ := least_of (fun k => Pth R s k t) k hk
    exact ⟨(l : Int), .inr ⟨l, rfl, h1, h2⟩⟩
  · exact ⟨-1, .inl ⟨rfl, fun k hk => h ⟨k, hk⟩⟩⟩
/-- both answer one number -/
theorem distBoth (n : Int) (zs : List Int) (s t : Int) : ∃ R : Int,
    (∀ v w, Rd w v zs → Calls Try.prog 55 #[.agg #[.int .i64 n, v], .int .i64 s, .int .i64 t] w fun e w' => e = .returned (.int .i64 R) ∧ Below w.heap.size w w') ∧
    (∀ v w, Rd w v zs → Calls Try.prog 56 #[.agg #[.int .i64 n, v], .int .i64 s, .int .i64 t] w fun e w' => e = .returned (.int .i64 R) ∧ Below w.heap.size w w') := by
  by_cases hk : dOk n zs s t = true
  · obtain ⟨m, ns, i, j, rfl, rfl, hc, hi, hj, rfl, rfl, hv⟩ := dOk_at hk
    obtain ⟨d, hd⟩ := dst_ex (nR ns) i j
    refine ⟨d, fun v w h => (specDistIn m ns i j v w hc hv hi hj h).mono ?_, fun v w h => (implDistIn m ns i j v w hc hv hi hj h).mono ?_⟩
    · rintro e w' ⟨d', rfl, h1, h2⟩
      exact ⟨by rw [h1.uniq hd], h2⟩
    · rintro e w' ⟨d', rfl, h1, h2⟩
      exact ⟨by rw [h1.uniq hd], h2⟩
  · rw [Bool.not_eq_true] at hk
    exact ⟨-1, fun v w h => specDistNo n v zs s t w hk h, fun v w h => implDistNo n v zs s t w hk h⟩

end Go.Proofs.Ytbjaacppomobeaa
