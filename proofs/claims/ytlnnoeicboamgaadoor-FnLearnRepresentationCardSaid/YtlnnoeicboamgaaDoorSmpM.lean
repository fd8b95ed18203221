/- Samples cut short, and risks turned round. No conditions. -/
import Derived.Test.YtlnnoeicboamgaaDoorRisk
namespace Go.Proofs.YtlnnoeicboamgaaDoor
open Go.RowKit

theorem pts_iff {n : Int} {es : List (Int × Bool)} {k : Nat} : ptsTo n es k = true ↔ ∀ j, j < k → 0 ≤ (es.getD j (0, false)).1 ∧ (es.getD j (0, false)).1 < n := by
  simp only [ptsTo, List.all_eq_true, List.mem_range, Bool.and_eq_true, decide_eq_true_eq]
theorem getD_take {es : List (Int × Bool)} {k j : Nat} (h : j < k) : (es.take k).getD j (0, false) = es.getD j (0, false) := by
  simp only [List.getD_eq_getElem?_getD]
  rw [List.getElem?_take_of_lt h]
theorem getD_drop {es : List (Int × Bool)} {k j : Nat} : (es.drop k).getD j (0, false) = es.getD (k + j) (0, false) := by
  simp only [List.getD_eq_getElem?_getD, List.getElem?_drop]
theorem vs_take {n : Int} {zs : List Int} {es : List (Int × Bool)} (h : vsB n zs es = true) (k : Nat) : vsB n zs (es.take k) = true := by
  simp only [vsB, Bool.and_eq_true, decide_eq_true_eq, pts_iff] at h ⊢
  obtain ⟨h0, h1, h2⟩ := h
  refine ⟨h0, by rw [List.length_take]; omega, fun j hj => ?_⟩
  rw [List.length_take] at hj
  rw [getD_take (by omega)]
  exact h2 j (by omega)
theorem vs_drop {n : Int} {zs : List Int} {es : List (Int × Bool)} (h : vsB n zs es = true) (k : Nat) : vsB n zs (es.drop k) = true := by
  simp only [vsB, Bool.and_eq_true, decide_eq_true_eq, pts_iff] at h ⊢
  obtain ⟨h0, h1, h2⟩ := h
  refine ⟨h0, by rw [List.length_drop]; omega, fun j hj => ?_⟩
  rw [List.length_drop] at hj
  rw [getD_drop]
  exact h2 _ (by omega)
theorem hasX_full : ∀ (m : Fin 6) (s : Fin 32) (x : Fin 5), s.1 < 2 ^ m.1 → x.1 < m.1 → hasX x.1 (2 ^ m.1 - 1 - s.1) = !hasX x.1 s.1 := by decide +kernel
theorem hasX_turn {m s x : Nat} (hm : m ≤ 5) (hs : s < 2 ^ m) (hx : x < m) : hasX x (2 ^ m - 1 - s) = !hasX x s := by
  have h32 := pow_le_32 hm
  exact hasX_full ⟨m, by omega⟩ ⟨s, by omega⟩ ⟨x, by omega⟩ hs hx
/-- the risks of a set and of the others' -/
theorem ms_turn {m s : Nat} {es : List (Int × Bool)} (hm : m ≤ 5) (hs : s < 2 ^ m) (hp : ptsTo m es es.length = true) : ∀ k, k ≤ es.length → msTo s es k + msTo (2 ^ m - 1 - s) es k = (k : Int)
  | 0, _ => by simp [msTo]
  | k + 1, hk => by
    have ih := ms_turn hm hs hp k (by omega)
    obtain ⟨h0, h1⟩ := pts_iff.1 hp k (by omega)
    rw [msTo, msTo, hasX_turn hm hs (x := (es.getD k (0, false)).1.toNat) (by omega)]
    generalize hasX (es.getD k (0, false)).1.toNat s = g
    generalize (es.getD k (0, false)).2 = l
    cases g <;> cases l <;> simp <;> omega
theorem ms_zero (t : Nat) (es : List (Int × Bool)) : ∀ k, msTo t es k = 0 ↔ ∀ j, j < k → hasX (es.getD j (0, false)).1.toNat t = (es.getD j (0, false)).2
  | 0 => by simp [msTo]
  | k + 1 => by
    have ih := ms_zero t es k
    have hb := msTo_bd t es k
    rw [msTo]
    constructor
    · intro h j hj
      by_cases e : hasX (es.getD k (0, false)).1.toNat t = (es.getD k (0, false)).2
      · rw [if_pos e] at h
        rcases (show j < k ∨ j = k by omega) with h1 | rfl
        · exact ih.1 (by omega) j h1
        · exact e
      · rw [if_neg e] at h
        omega
    · intro h
      rw [if_pos (h k (by omega)), ih.2 (fun j hj => h j (by omega))]
      rfl

end Go.Proofs.YtlnnoeicboamgaaDoor
