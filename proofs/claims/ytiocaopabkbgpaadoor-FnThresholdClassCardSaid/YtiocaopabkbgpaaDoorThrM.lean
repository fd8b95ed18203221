/- What the law of ThresholdClass asks of the classes that it draws. No conditions. -/
import Derived.Test.YtiocaopabkbgpaaDoorDrawsTh
import Derived.Test.YtiocaopabkbgpaaDoorLittle
import Derived.Test.YtiocaopabkbgpaaDoorThr
import Derived.Test.YtiocaopabkbgpaaDoorZG
import Derived.Test.YtiocaopabkbgpaaDoorZM
namespace Go.Proofs.YtiocaopabkbgpaaDoor
open Go.RowKit

/-- what is asked of the thresholds of m points -/
def thrOK (m : Nat) : Bool :=
  decide (0 ≤ mst (thr (m + 1))) && decide (mst (thr (m + 1)) ≤ 4) && decide (0 ≤ qst (thr (m + 1))) && decide (qst (thr (m + 1)) ≤ 4) && decide (2 ^ (mst (thr (m + 1))).toNat ≤ m + 1) && decide (m + 1 < 2 ^ ((mst (thr (m + 1))).toNat + 1)) && decide (m + 1 ≤ 2 ^ (qst (thr (m + 1))).toNat) &&
  (decide (qst (thr (m + 1)) = 0) == decide (m = 0)) && (decide (m = 0) || decide (2 ^ ((qst (thr (m + 1))).toNat - 1) < m + 1)) && decide (vcL m (thr (m + 1)) = min (m : Int) 1) && decide (((thr (m + 1)).length : Int) = sauerB m (vcL m (thr (m + 1))))
theorem thr_all : ∀ m : Fin 6, thrOK m = true := by decide +kernel
theorem thr_bd : ∀ i : Fin 8, -1 ≤ thrNs.getD i 0 ∧ thrNs.getD i 0 ≤ 6 := by decide +kernel
theorem thr_asc (m : Fin 6) : (thr (m + 1)).Pairwise (· < ·) ∧ ∀ t ∈ thr (m + 1), t < 2 ^ (m : Nat) := by
  have h : ∀ m : Fin 6, (decide ((thr (m + 1)).Pairwise (· < ·)) && (thr (m + 1)).all (fun t => decide (t < 2 ^ (m : Nat)))) = true := by decide +kernel
  have := h m
  simp only [Bool.and_eq_true, decide_eq_true_eq, List.all_eq_true] at this
  exact this
theorem thr_cls {m : Nat} (hm : m ≤ 5) : Cls m (thr (m + 1)) := ⟨hm, (thr_asc ⟨m, by omega⟩).1, (thr_asc ⟨m, by omega⟩).2⟩
/-- what the law asks -/
theorem thr_good {m : Nat} (hm : m ≤ 5) : ∃ l q : Nat, litB (m : Int) (toI (thr (m + 1))) = l ∧ memB (m : Int) (toI (thr (m + 1))) = q ∧ l ≤ 4 ∧ q ≤ 4 ∧ 2 ^ l ≤ m + 1 ∧ m + 1 < 2 ^ (l + 1) ∧ m + 1 ≤ 2 ^ q ∧ (q = 0 ↔ m = 0) ∧ (m ≠ 0 → 2 ^ (q - 1) < m + 1) ∧ vcB (m : Int) (toI (thr (m + 1))) = min (m : Int) 1 ∧ maxB (m : Int) (toI (thr (m + 1))) = true := by
  have hc := thr_cls hm
  have hv := cls_vldB hc
  have h := thr_all ⟨m, by omega⟩
  simp only [thrOK, Bool.and_eq_true, Bool.or_eq_true, decide_eq_true_eq, beq_iff_eq, decide_eq_decide] at h
  obtain ⟨⟨⟨⟨⟨⟨⟨⟨⟨⟨h1, h2⟩, h3⟩, h4⟩, h5⟩, h6⟩, h7⟩, h8⟩, h9⟩, h10⟩, h11⟩ := h
  obtain ⟨l, hl⟩ := Int.eq_ofNat_of_zero_le h1
  obtain ⟨q, hq⟩ := Int.eq_ofNat_of_zero_le h3
  rw [hl] at h2 h5 h6
  rw [hq] at h4 h7 h8 h9
  rw [Int.toNat_natCast] at h5 h6 h7 h9
  refine ⟨l, q, ?_, ?_, by omega, by omega, h5, h6, h7, ?_, ?_, ?_, ?_⟩
  · rw [litB, if_pos hv, toNat_toI]; exact hl
  · rw [memB, if_pos hv, toNat_toI]; exact hq
  · rw [← h8]; omega
  · intro h0
    rcases h9 with h9 | h9
    · exact absurd h9 h0
    · exact h9
  · rw [vcB_in hv]; exact h10
  · rw [maxB_in hv, vcB_in hv, toI_length, ← h11]
    exact decide_eq_true rfl

end Go.Proofs.YtiocaopabkbgpaaDoor
