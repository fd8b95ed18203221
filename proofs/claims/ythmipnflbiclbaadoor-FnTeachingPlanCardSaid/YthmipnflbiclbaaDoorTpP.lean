/- The plan of the layers: it is without clashes, and what it tells of a set is learned: mathematics. No conditions. -/
import Derived.Test.YthmipnflbiclbaaDoorLab
import Derived.Test.YthmipnflbiclbaaDoorLpM
import Derived.Test.YthmipnflbiclbaaDoorPlnS
import Derived.Test.YthmipnflbiclbaaDoorRepM
import Derived.Test.YthmipnflbiclbaaDoorZJ
namespace Go.Proofs.YthmipnflbiclbaaDoor
open Go.RowKit

theorem tell_two {t u a b : Nat} (h : t &&& a ≠ u &&& a ∨ t &&& b ≠ u &&& b) : (t ^^^ u) &&& (a ||| b) ≠ 0 := by
  intro e
  have hb : ∀ i, (((t.testBit i) ^^ (u.testBit i)) && (a.testBit i || b.testBit i)) = false := fun i => by
    have := congrArg (fun x => Nat.testBit x i) e
    simpa [Nat.testBit_and, Nat.testBit_or, Nat.testBit_xor] using this
  rcases h with h | h
  · apply h
    apply Nat.eq_of_testBit_eq
    intro i
    have h9 := hb i
    clear hb h e
    rw [Nat.testBit_and, Nat.testBit_and]
    revert h9
    cases t.testBit i <;> cases u.testBit i <;> cases a.testBit i <;> cases b.testBit i <;> decide
  · apply h
    apply Nat.eq_of_testBit_eq
    intro i
    have h9 := hb i
    clear hb h e
    rw [Nat.testBit_and, Nat.testBit_and]
    revert h9
    cases t.testBit i <;> cases u.testBit i <;> cases a.testBit i <;> cases b.testBit i <;> decide
theorem setB_of {m t : Nat} (h : t < 2 ^ m) : setB m (t : Int) = true := by
  have h9 : ((2 ^ m : Nat) : Int) = (2 : Int) ^ m := by simp
  obtain ⟨q, hq⟩ : ∃ q, q = 2 ^ m := ⟨_, rfl⟩
  rw [← hq] at h
  simp only [setB, Bool.and_eq_true, decide_eq_true_eq]
  omega
theorem pln_at {m : Nat} {ns : List Nat} {i : Nat} (hi : i < ns.length) : (plnL m ns).getD i 0 = plV m (lys ns) (ns.getD i 0) := by
  simp [plnL, List.getD_eq_getElem?_getD, hi]
theorem pln_plTo {m : Nat} {ns : List Nat} (hc : Cls m ns) : ∀ k, k ≤ ns.length → plTo m ns (toI (plnL m ns)) k = true := by
  intro k
  induction k with
  | zero => intro _; rfl
  | succ k ih =>
    intro hk
    rw [plTo_succ, ih (by omega), Bool.true_and, toI_getD, pln_at (by omega), setB_of (plV_lt hc (getD_of_lt (show k < ns.length by omega))), Bool.true_and, toNat_toI]
    have h : clTo ns (plnL m ns) k k = false := by
      rw [clTo, List.any_eq_false]
      intro j hj
      rw [List.mem_range] at hj
      have hne : ns.getD k 0 ≠ ns.getD j 0 := by
        have h3 := List.pairwise_iff_getElem.1 hc.asc j k (by omega) (by omega) hj
        rw [List.getD_eq_getElem?_getD, List.getD_eq_getElem?_getD, List.getElem?_eq_getElem (show k < ns.length by omega), List.getElem?_eq_getElem (show j < ns.length by omega), Option.getD_some, Option.getD_some]
        omega
      rw [clsh, pln_at (by omega), pln_at (by omega), decide_eq_true_eq]
      exact tell_two (plV_apart hc (getD_of_lt (by omega)) (getD_of_lt (by omega)) hne)
    rw [h, Bool.and_false]
    rfl
/-- plans of layers have no clash -/
theorem pln_rep {m : Nat} {ns : List Nat} (hc : Cls m ns) (hv : vldB (m : Int) (toI ns) = true) : repB (m : Int) (toI ns) (toI (plnL m ns)) = true := by
  rw [repB_in hv, toI_length, plnL_len, decide_eq_true rfl, Bool.true_and]
  exact pln_plTo hc _ (Nat.le_refl _)
theorem pts_few : ∀ s : Fin 32, (pts s.1).length ≤ 5 := by decide +kernel
theorem pts_low : ∀ m : Fin 6, ∀ s : Fin 32, s.1 < 2 ^ m.1 → ((pts s.1).all (fun x => decide (x < m.1))) = true := by decide +kernel
theorem lab_pts {m s t : Nat} {ns : List Nat} (hc : Cls m ns) (hv : vldB (m : Int) (toI ns) = true) (hs : s < 2 ^ m) (ht : t ∈ ns) : labB (m : Int) (toI ns) (toI (pts s)) (t : Int) = true := by
  have hm := hc.pts
  have h32 := pow_le_32 hm
  have h1 := pts_low ⟨m, by omega⟩ ⟨s, by omega⟩ hs
  have h2 := pts_few ⟨s, by omega⟩
  dsimp only at h1 h2
  rw [List.all_eq_true] at h1
  have hl : labTo (m : Int) (toI (pts s)) (toI (pts s)).length := fun j hj => by
    rw [toI_length] at hj
    rw [toI_getD]
    have := h1 _ (getD_of_lt hj)
    rw [decide_eq_true_eq] at this
    omega
  rw [labB, inB, hv, Int.toNat_natCast, setB_of (hc.lt t ht), decide_eq_true hl, toI_length, decide_eq_true (show (pts s).length ≤ 12 by omega)]
  rfl
theorem lab_vs2 {m : Nat} {zs ps : List Int} {t : Nat} (h : labB (m : Int) zs ps (t : Int) = true) : vsB (m : Int) zs (ps.map (lab1 t)) = true := by
  simp only [labB, Bool.and_eq_true, decide_eq_true_eq] at h
  obtain ⟨h1, h2, h3⟩ := h
  have hv : vldB (m : Int) zs = true := by simp only [inB, Bool.and_eq_true] at h1; exact h1.1
  simp only [vsB, ptsTo, Bool.and_eq_true, decide_eq_true_eq, List.all_eq_true, List.mem_range]
  refine ⟨hv, by rw [List.length_map]; exact h2, fun j hj => ?_⟩
  rw [List.length_map] at hj
  rw [labMap_getD t ps j hj]
  exact h3 j hj
theorem pts_same {t s u : Nat} (ht : t < 32) (hs : s < 32) (hu : u < 32) : ((pts s).all (fun x => hasX x u == hasX x t)) = true ↔ u &&& s = t &&& s := by
  have h := agr_all ht hs (l := [u]) (fun v hv => by rw [List.mem_singleton] at hv; omega)
  rw [lft_filter, agr] at h
  have e : ∀ p : Nat → Bool, u ∈ [u].filter p ↔ p u = true := fun p => by simp
  have h2 := e (fun u => (ptl s).all (fun x => hasX x u == hasX x t))
  rw [h, e] at h2
  rw [beq_iff_eq] at h2
  exact h2.symm
theorem fit_lab {t s u : Nat} (ht : t < 32) (hs : s < 32) (hu : u < 32) : fitK ((toI (pts s)).map (lab1 t)) ((toI (pts s)).map (lab1 t)).length u = true ↔ u &&& s = t &&& s := by
  rw [← pts_same ht hs hu, fitK, List.all_eq_true, List.all_eq_true, List.length_map]
  constructor
  · intro h x hx
    obtain ⟨j, hj, rfl⟩ := List.getElem_of_mem hx
    have h1 := h j (List.mem_range.2 (by rw [toI_length]; exact hj))
    rw [labMap_getD t _ j (by rw [toI_length]; exact hj), toI_getD, Int.toNat_natCast, List.getD_eq_getElem?_getD, List.getElem?_eq_getElem hj, Option.getD_some] at h1
    exact h1
  · intro h j hj
    rw [List.mem_range, toI_length] at hj
    rw [labMap_getD t _ j (by rw [toI_length]; exact hj), toI_getD, Int.toNat_natCast]
    exact h _ (getD_of_lt hj)
/-- what a plan of layers tells of a set is learned -/
theorem lp_teach {m t : Nat} {ns : List Nat} (hc : Cls m ns) (hv : vldB (m : Int) (toI ns) = true) (ht : t ∈ ns) : lpN (m : Int) (toI ns) ((toI (pts (plV m (lys ns) t))).map (lab1 t)) = some t := by
  have h1 := plV_lt hc ht
  have h32 := pow_le_32 hc.pts
  rw [lpN_in (lab_vs2 (lab_pts hc hv h1 ht))]
  exact lpO_teach hc ht (fun u hu => fit_lab (hc.lt32 t ht) (by omega) (hc.lt32 u hu))

end Go.Proofs.YthmipnflbiclbaaDoor
