/- The plan of layers is one without clashes: no more points are needed than it has. No program. -/
import Derived.Test.YtnoppclajhfnjabDoorFrpM
import Derived.Test.YtnoppclajhfnjabDoorPlnS
import Derived.Test.YtnoppclajhfnjabDoorRn
namespace Go.Proofs.YtnoppclajhfnjabDoor
open Go.RowKit

theorem apart_xor {t u a b : Nat} (h : t &&& a ≠ u &&& a ∨ t &&& b ≠ u &&& b) : (t ^^^ u) &&& (a ||| b) ≠ 0 := by
  intro e
  have hb : ∀ i, (((t.testBit i) ^^ (u.testBit i)) && (a.testBit i || b.testBit i)) = false := fun i => by
    have := congrArg (fun x => Nat.testBit x i) e
    simpa [Nat.testBit_and, Nat.testBit_or, Nat.testBit_xor] using this
  rcases h with h | h
  · apply h
    apply Nat.eq_of_testBit_eq
    intro i
    have h9 := hb i
    clear hb h e
    rw [Nat.testBit_and, Nat.testBit_and]
    revert h9
    cases t.testBit i <;> cases u.testBit i <;> cases a.testBit i <;> cases b.testBit i <;> decide
  · apply h
    apply Nat.eq_of_testBit_eq
    intro i
    have h9 := hb i
    clear hb h e
    rw [Nat.testBit_and, Nat.testBit_and]
    revert h9
    cases t.testBit i <;> cases u.testBit i <;> cases a.testBit i <;> cases b.testBit i <;> decide
/-- where a plan is, one is found -/
theorem fnd_of {ns P : List Nat} {s : Int} {q : Nat} (hl : P.length = ns.length) (h1 : ∀ x ∈ P, x < q ∧ ((pc x : Nat) : Int) ≤ s) (h2 : ∀ i j, i < ns.length → j < i → clsh ns P i j = false) :
    ∀ k, k ≤ ns.length → (fndP ns s q k (P.take (ns.length - k))).isSome = true := by
  intro k
  induction k with
  | zero => intro _; rfl
  | succ k ih =>
    intro hk
    have hlt : ns.length - (k + 1) < P.length := by omega
    have hm := h1 _ (getD_of_lt hlt)
    rw [fndP, List.isSome_findSome?, List.any_eq_true]
    refine ⟨P.getD (ns.length - (k + 1)) 0, List.mem_range.2 hm.1, ?_⟩
    have hpl : (P.take (ns.length - (k + 1))).length = ns.length - (k + 1) := by rw [List.length_take]; omega
    have hap : P.take (ns.length - (k + 1)) ++ [P.getD (ns.length - (k + 1)) 0] = P.take (ns.length - k) := by
      rw [show ns.length - k = ns.length - (k + 1) + 1 by omega, List.take_add_one, List.getD_eq_getElem?_getD, List.getElem?_eq_getElem hlt]
      rfl
    have hok : okP ns s (P.take (ns.length - (k + 1))) (P.getD (ns.length - (k + 1)) 0) = true := by
      rw [okP, decide_eq_true hm.2, Bool.true_and, Bool.not_eq_true', ← Bool.not_eq_true, hpl]
      intro hcl
      rw [clTo, List.any_eq_true] at hcl
      obtain ⟨j, hj, e⟩ := hcl
      rw [List.mem_range] at hj
      rw [clsh, take_at (Nat.le_refl _) hlt, take_at (Nat.le_of_lt hj) hlt] at e
      have := h2 (ns.length - (k + 1)) j (by omega) hj
      rw [clsh] at this
      rw [this] at e
      cases e
    rw [if_pos hok, hap]
    exact ih (by omega)
theorem pln_found {m : Nat} {ns : List Nat} (hc : Cls m ns) : (fndP ns (((rdM m ns).toNat : Nat) : Int) (2 ^ m) ns.length []).isSome = true := by
  have hl := plnL_len m ns
  have hg : ∀ i, i < ns.length → (plnL m ns).getD i 0 = plV m (lys ns) (ns.getD i 0) := fun i hi => by
    simp [plnL, List.getD_eq_getElem?_getD, hi]
  have h9 := fnd_of (ns := ns) (P := plnL m ns) (s := (((rdM m ns).toNat : Nat) : Int)) (q := 2 ^ m) hl (fun x hx => ?_) (fun i j hi hj => ?_) ns.length (Nat.le_refl _)
  · rw [Nat.sub_self, List.take_zero] at h9
    exact h9
  · obtain ⟨t, ht, rfl⟩ := List.mem_map.1 hx
    refine ⟨plV_lt hc ht, ?_⟩
    obtain ⟨i, hi, e⟩ := List.getElem_of_mem ht
    have h5 := (gTo_all (ns.map (fun t => ((pc (plV m (lys ns) t) : Nat) : Int))) ns.length).2 i hi
    rw [plan_rd hc, List.getD_eq_getElem?_getD, List.getElem?_map, List.getElem?_eq_getElem hi, e, Option.map_some, Option.getD_some] at h5
    omega
  · have hj2 : j < ns.length := by omega
    have h3 := List.pairwise_iff_getElem.1 hc.asc j i hj2 hi hj
    have hne : ns.getD i 0 ≠ ns.getD j 0 := by
      rw [List.getD_eq_getElem?_getD, List.getD_eq_getElem?_getD, List.getElem?_eq_getElem hi, List.getElem?_eq_getElem hj2, Option.getD_some, Option.getD_some]
      omega
    rw [clsh, hg i hi, hg j hj2]
    exact decide_eq_false (apart_xor (plV_apart hc (getD_of_lt hi) (getD_of_lt hj2) hne))
theorem rn_rd {m r : Nat} {ns : List Nat} (hc : Cls m ns) (hr : RnOf ns m r) : (r : Int) ≤ max (rdM m ns) 0 := by
  have h1 := pln_found hc
  have h2 : ¬ (rdM m ns).toNat < r := fun h => by
    have := hr.2 _ h
    rw [h1] at this
    cases this
  omega

end Go.Proofs.YtnoppclajhfnjabDoor
