/- The first plan is one, and with more points allowed there is one, too. No program. -/
import Derived.Test.YtnoppclajhfnjabDoorFrpI
namespace Go.Proofs.YtnoppclajhfnjabDoor
open Go.RowKit

theorem okP_mono {ns : List Nat} {p p' : Int} (h : p ≤ p') {pl : List Nat} {s : Nat} (ho : okP ns p pl s = true) : okP ns p' pl s = true := by
  rw [okP, Bool.and_eq_true, decide_eq_true_eq] at ho
  rw [okP, ho.2, Bool.and_true]
  exact decide_eq_true (by omega)
theorem fnd_mono {ns : List Nat} {p p' : Int} (h : p ≤ p') {q : Nat} : ∀ k pl, (fndP ns p q k pl).isSome = true → (fndP ns p' q k pl).isSome = true := by
  intro k
  induction k with
  | zero => intro pl _; rfl
  | succ k ih =>
    intro pl hs
    rw [fndP, List.isSome_findSome?, List.any_eq_true] at hs ⊢
    obtain ⟨s, h1, h2⟩ := hs
    refine ⟨s, h1, ?_⟩
    by_cases ho : okP ns p pl s = true
    · rw [if_pos ho] at h2
      rw [if_pos (okP_mono h ho)]
      exact ih _ h2
    · rw [if_neg ho] at h2
      cases h2
theorem frp_some {n : Int} {zs : List Int} {s : Int} (h : frpB n zs s = true) : ∃ (m : Nat) (ns r : List Nat), n = m ∧ zs = toI ns ∧ Cls m ns ∧ vldB (m : Int) (toI ns) = true ∧ ns.length ≤ 7 ∧ fndP ns s (2 ^ m) ns.length [] = some r := by
  unfold frpB frpO at h
  split at h
  · rename_i hk
    rw [Bool.and_eq_true, decide_eq_true_eq] at hk
    obtain ⟨m, ns, rfl, rfl, hc⟩ := vldB_cls hk.1
    rw [toNat_toI, toI_length, Int.toNat_natCast] at h
    obtain ⟨r, hr⟩ := Option.isSome_iff_exists.1 h
    exact ⟨m, ns, r, rfl, rfl, hc, hk.1, by rw [toI_length] at hk; exact hk.2, hr⟩
  · cases h
theorem frp_none {n : Int} {zs : List Int} {s : Int} (h : frpB n zs s = false) : frpL n zs s = [] := by
  unfold frpB at h
  rw [frpL]
  cases e : frpO n zs s with
  | none => rfl
  | some r => rw [e] at h; cases h
theorem take_at {t : List Nat} {j i : Nat} (hi : i ≤ j) (hj : j < t.length) : (t.take j ++ [t.getD j 0]).getD i 0 = t.getD i 0 := by
  have hl : (t.take j).length = j := by rw [List.length_take]; omega
  rw [List.getD_eq_getElem?_getD]
  by_cases e : i = j
  · subst e
    rw [List.getElem?_append_right (by omega), hl, Nat.sub_self]; rfl
  · rw [List.getElem?_append_left (by omega), List.getElem?_take, if_pos (by omega), ← List.getD_eq_getElem?_getD]
/-- the first plan is one, of sets with few points -/
theorem fnd_plan {m : Nat} {ns r : List Nat} {s : Int} (hc : Cls m ns) (h : fndP ns s (2 ^ m) ns.length [] = some r) : r.length = ns.length ∧ (∀ x ∈ r, x < 2 ^ m ∧ ((pc x : Nat) : Int) ≤ s) ∧ plTo m ns (toI r) ns.length = true := by
  obtain ⟨t, h1, h2, h3⟩ := fnd_ok ns.length [] r h
  rw [List.nil_append] at h1
  subst h1
  have hp5 := pow_le_32 hc.pts
  refine ⟨h2, fun x hx => ?_, ?_⟩
  · obtain ⟨j, hj, e⟩ := List.getElem_of_mem hx
    have h4 := h3 j (by omega)
    rw [List.getD_eq_getElem?_getD, List.getElem?_eq_getElem hj, Option.getD_some, e] at h4
    refine ⟨h4.1, ?_⟩
    rw [okP, Bool.and_eq_true, decide_eq_true_eq] at h4
    exact h4.2.1
  · have key : ∀ k, k ≤ ns.length → plTo m ns (toI r) k = true := by
      intro k
      induction k with
      | zero => intro _; rfl
      | succ k ih =>
        intro hk
        have h4 := h3 k (by omega)
        rw [okP, Bool.and_eq_true, List.nil_append, List.length_take, Nat.min_eq_left (by omega)] at h4
        rw [plTo_succ, ih (by omega), Bool.true_and, decide_eq_true (show k < ns.length by omega), Bool.true_and, toNat_toI, toI_getD, Bool.and_eq_true]
        refine ⟨?_, ?_⟩
        · have e2 : (2 : Int) ^ m = ((2 ^ m : Nat) : Int) := by simp
          simp only [setB, Bool.and_eq_true, decide_eq_true_eq]
          rw [e2]
          omega
        · rw [← h4.2.2]
          congr 1
          unfold clTo
          rw [Bool.eq_iff_iff, List.any_eq_true, List.any_eq_true]
          constructor
          · rintro ⟨i, hi, he⟩
            refine ⟨i, hi, ?_⟩
            rw [List.mem_range] at hi
            rw [clsh, take_at (Nat.le_refl k) (by omega), take_at (show i ≤ k by omega) (by omega)]
            exact he
          · rintro ⟨i, hi, he⟩
            refine ⟨i, hi, ?_⟩
            rw [List.mem_range] at hi
            rw [clsh, take_at (Nat.le_refl k) (by omega), take_at (show i ≤ k by omega) (by omega)] at he
            exact he
    exact key _ (Nat.le_refl _)

end Go.Proofs.YtnoppclajhfnjabDoor
