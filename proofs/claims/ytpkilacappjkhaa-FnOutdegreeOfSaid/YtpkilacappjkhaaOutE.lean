/- OutdegreeOf: one number, the program's and the model's. Conditions: Sets is a slice of ints. -/
import Derived.Test.YtpkilacappjkhaaOutI
import Derived.Test.YtpkilacappjkhaaOutS
namespace Go.Proofs.Ytpkilacappjkhaa
open Go.RowKit

/-- both answer one number -/
theorem outBoth (n : Int) (zs : List Int) : ∃ R : Int,
    (∀ v w, Rd w v zs → Calls Try.prog 7 #[.agg #[.int .i64 n, v]] w fun e w' => e = .returned (.int .i64 R) ∧ Below w.heap.size w w') ∧
    (∀ v w, Rd w v zs → Calls Try.prog 6 #[.agg #[.int .i64 n, v]] w fun e w' => e = .returned (.int .i64 R) ∧ Below w.heap.size w w' ∧ (vldB n zs = true → ∃ k : Nat, R = (k : Int) ∧ Odg (zs.map Int.toNat) k)) := by
  by_cases hv : vldB n zs = true
  · obtain ⟨m, ns, rfl, rfl, hc⟩ := vldB_cls hv
    rw [toNat_toI]
    by_cases hk : ∃ k, Odg ns k
    · obtain ⟨k, hk⟩ := hk
      refine ⟨(k : Int), fun v w h => (specOutIn m ns v w hc hv h).mono ?_, fun v w h => (implOutIn m ns v w hc hv h).mono ?_⟩
      · rintro e w' ⟨k', rfl, h1, h2⟩
        exact ⟨by rw [h1.uniq (asc_nodup hc.asc) hk], h2⟩
      · rintro e w' ⟨k', rfl, h1, h2⟩
        exact ⟨by rw [h1.uniq (asc_nodup hc.asc) hk], h2, fun _ => ⟨k, rfl, hk⟩⟩
    · refine ⟨0, fun v w h => (specOutIn m ns v w hc hv h).mono ?_, fun v w h => (implOutIn m ns v w hc hv h).mono ?_⟩
      · rintro e w' ⟨k', rfl, h1, h2⟩
        exact absurd ⟨k', h1⟩ hk
      · rintro e w' ⟨k', rfl, h1, h2⟩
        exact absurd ⟨k', h1⟩ hk
  · rw [Bool.not_eq_true] at hv
    refine ⟨-1, fun v w h => specOutNo n v zs w hv h, fun v w h => (implOutNo n v zs w hv h).mono ?_⟩
    rintro e w' ⟨rfl, h2⟩
    exact ⟨rfl, h2, fun k => by rw [hv] at k; cases k⟩
/-- the same, without what the number is -/
theorem outBoth2 (n : Int) (zs : List Int) : ∃ R : Int,
    (∀ v w, Rd w v zs → Calls Try.prog 7 #[.agg #[.int .i64 n, v]] w fun e w' => e = .returned (.int .i64 R) ∧ Below w.heap.size w w') ∧
    (∀ v w, Rd w v zs → Calls Try.prog 6 #[.agg #[.int .i64 n, v]] w fun e w' => e = .returned (.int .i64 R) ∧ Below w.heap.size w w') := by
  obtain ⟨R, h1, h2⟩ := outBoth n zs
  exact ⟨R, h1, fun v w h => (h2 v w h).mono fun _ _ k => ⟨k.1, k.2.1⟩⟩

end Go.Proofs.Ytpkilacappjkhaa
