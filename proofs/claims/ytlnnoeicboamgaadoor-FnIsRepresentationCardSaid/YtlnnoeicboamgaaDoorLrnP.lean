/- Plans without clashes are learned from any points that hold those of the set's own plan. No program. -/
import Derived.Test.YtlnnoeicboamgaaDoorLab
import Derived.Test.YtlnnoeicboamgaaDoorLrnM
import Derived.Test.YtlnnoeicboamgaaDoorZJ
namespace Go.Proofs.YtlnnoeicboamgaaDoor
open Go.RowKit

theorem bits_xor : ∀ a b : Fin 32, a.1 ^^^ b.1 < 32 ∧ ∀ y : Fin 5, hasX y.1 (a.1 ^^^ b.1) = (hasX y.1 a.1 ^^ hasX y.1 b.1) := by decide +kernel
theorem bits_and : ∀ a b : Fin 32, a.1 &&& b.1 < 32 ∧ ∀ y : Fin 5, hasX y.1 (a.1 &&& b.1) = (hasX y.1 a.1 && hasX y.1 b.1) := by decide +kernel
theorem mem_pts {s y : Nat} : y ∈ pts s ↔ y < 5 ∧ hasX y s = true := by simp [pts, List.mem_filter, List.mem_range]
theorem bit_in {m q x : Nat} (hq : q < 2 ^ m) (h : hasX x q = true) : x < m := by
  by_cases hx : x < m
  · exact hx
  · exfalso
    have h2 : 2 ^ m ≤ 2 ^ x := Nat.pow_le_pow_right (by omega) (by omega)
    simp only [hasX, decide_eq_true_eq] at h
    rw [Nat.div_eq_of_lt (by omega)] at h
    omega
/-- the labels of s at the points of q -/
def labs (q s : Nat) : List (Int × Bool) := (toI (pts q)).map (lab1 s)
theorem labs_len (q s : Nat) : (labs q s).length = (pts q).length := by simp [labs, toI]
theorem pts_five (q : Nat) : (pts q).length ≤ 5 := by
  have := List.length_filter_le (fun x => hasX x q) (List.range 5)
  simpa [pts] using this
theorem labs_at {q s j : Nat} (hj : j < (pts q).length) : (labs q s).getD j (0, false) = ((((pts q).getD j 0 : Nat) : Int), hasX ((pts q).getD j 0) s) := by
  show ((toI (pts q)).map (lab1 s)).getD j (0, false) = _
  rw [labMap_getD _ _ _ (by rw [toI_length]; exact hj), toI_getD, Int.toNat_natCast]
theorem labs_pts {m q s : Nat} (hq : q < 2 ^ m) : ptsTo (m : Int) (labs q s) (labs q s).length = true := by
  rw [pts_iff2]
  intro j hj
  rw [labs_len] at hj
  rw [labs_at hj]
  have := bit_in hq (mem_pts.1 (getD_of_lt hj)).2
  dsimp only
  omega
theorem labs_seen {m q s : Nat} (hm : m ≤ 5) (hq : q < 2 ^ m) : seenTo (labs q s) (labs q s).length = q := by
  have h32 := pow_le_32 hm
  have hp := labs_pts (s := s) hq
  have h1 := seen_lt (show (m : Int) ≤ 5 by omega) hp _ (Nat.le_refl _)
  refine bits_ext ⟨_, h1⟩ ⟨q, by omega⟩ (fun y => ?_)
  dsimp only
  rw [Bool.eq_iff_iff, seen_has (show (m : Int) ≤ 5 by omega) hp y.2 _ (Nat.le_refl _)]
  constructor
  · rintro ⟨j, hj, e⟩
    rw [labs_len] at hj
    rw [labs_at hj] at e
    have e2 : (pts q).getD j 0 = y.1 := by dsimp only at e; omega
    have := (mem_pts.1 (getD_of_lt hj)).2
    rwa [e2] at this
  · intro h
    obtain ⟨j, hj, e⟩ := List.mem_iff_getElem.1 (mem_pts.2 ⟨y.2, h⟩)
    refine ⟨j, by rw [labs_len]; exact hj, ?_⟩
    rw [labs_at hj, List.getD_eq_getElem?_getD, List.getElem?_eq_getElem hj, Option.getD_some, e]
theorem labs_own {ns : List Nat} {q s : Nat} (hs : s ∈ ns) : s ∈ nowTo ns (labs q s) (labs q s).length := by
  rw [mem_now2]
  refine ⟨hs, fun j hj => ?_⟩
  rw [labs_len] at hj
  rw [labs_at hj, Int.toNat_natCast]
theorem labs_now {ns : List Nat} {q s u : Nat} (hq : q < 32) (hs : s < 32) (hu : u < 32) (h : u ∈ nowTo ns (labs q s) (labs q s).length) : (u ^^^ s) &&& q = 0 := by
  rw [mem_now2] at h
  have h1 := bits_xor ⟨u, hu⟩ ⟨s, hs⟩
  have h2 := bits_and ⟨u ^^^ s, h1.1⟩ ⟨q, hq⟩
  refine bits_ext ⟨_, h2.1⟩ ⟨0, by omega⟩ (fun y => ?_)
  dsimp only
  rw [h2.2 y]
  dsimp only
  rw [h1.2 y]
  dsimp only
  have h0 : hasX y.1 0 = false := by simp [hasX]
  rw [h0]
  cases hy : hasX y.1 q with
  | false => simp
  | true =>
    obtain ⟨j, hj, e⟩ := List.mem_iff_getElem.1 (mem_pts.2 ⟨y.2, hy⟩)
    have h3 := h.2 j (by rw [labs_len]; exact hj)
    rw [labs_at hj, List.getD_eq_getElem?_getD, List.getElem?_eq_getElem hj, Option.getD_some, e, Int.toNat_natCast] at h3
    dsimp only at h3
    rw [h3]
    simp
theorem and_parts {a p r q : Nat} (h : a &&& q = 0) (hp : p &&& q = p) (hr : r &&& q = r) : a &&& (p ||| r) = 0 := by
  have e : (p ||| r) = q &&& (p ||| r) := by rw [Nat.and_comm, Nat.and_or_distrib_right, hp, hr]
  rw [e, ← Nat.and_assoc, h, Nat.zero_and]
theorem pl_none {m : Nat} {ns : List Nat} {ps : List Int} {l k : Nat} (h : plTo m ns ps l = true) (hk : k < l) (hn : k < ns.length) : clTo ns (ps.map Int.toNat) k k = false := by
  cases e : plTo m ns ps (k + 1) with
  | false => rw [plTo_stop e (show k + 1 ≤ l by omega)] at h; cases h
  | true =>
    rw [plTo_succ, decide_eq_true hn] at e
    simpa using (by simpa using e : _ ∧ _ ∧ _).2.2
theorem pl_apart {m : Nat} {ns : List Nat} {ps : List Int} {l k i : Nat} (h : plTo m ns ps l = true) (hk : k < l) (hn : k < ns.length) (hi : i < k) : (ns.getD k 0 ^^^ ns.getD i 0) &&& ((ps.map Int.toNat).getD k 0 ||| (ps.map Int.toNat).getD i 0) ≠ 0 := by
  intro e
  have := clTo_hit hi (show clsh ns (ps.map Int.toNat) k i = true from decide_eq_true e)
  rw [pl_none h hk hn] at this
  cases this
/-- a set is learned from its labels at any points that hold its own ones -/
theorem lr_own {m k q : Nat} {ns : List Nat} {ps : List Int} (hcl : Cls m ns) (hr : repB (m : Int) (toI ns) ps = true) (hk : k < ns.length) (hq : q < 2 ^ m) (hsub : (ps.map Int.toNat).getD k 0 &&& q = (ps.map Int.toNat).getD k 0) :
    labB (m : Int) (toI ns) (toI (pts q)) ((ns.getD k 0 : Nat) : Int) = true ∧ labL (m : Int) (toI ns) (toI (pts q)) ((ns.getD k 0 : Nat) : Int) = labs q (ns.getD k 0) ∧ lrB (m : Int) (toI ns) ps (labs q (ns.getD k 0)) = true ∧ lrN (m : Int) (toI ns) ps (labs q (ns.getD k 0)) = ((ns.getD k 0 : Nat) : Int) := by
  have hm := hcl.pts
  have h32 := pow_le_32 hm
  have hv : vldB (m : Int) (toI ns) = true := by
    cases e : vldB (m : Int) (toI ns) with
    | true => rfl
    | false => rw [repB_bad e] at hr; cases hr
  have hr2 := hr
  rw [repB_in hv, Bool.and_eq_true, decide_eq_true_eq] at hr2
  obtain ⟨hpl, hpt⟩ := hr2
  have hmem : ns.getD k 0 ∈ ns := getD_of_lt hk
  have hlt := hcl.lt _ hmem
  have hlab : labB (m : Int) (toI ns) (toI (pts q)) ((ns.getD k 0 : Nat) : Int) = true := by
    have hsb : setB m ((ns.getD k 0 : Nat) : Int) = true := by
      have : ((2 ^ m : Nat) : Int) = (2 : Int) ^ m := by simp
      obtain ⟨r, hr⟩ : ∃ r, r = 2 ^ m := ⟨_, rfl⟩
      rw [← hr] at hlt this
      simp only [setB, Bool.and_eq_true, decide_eq_true_eq]
      omega
    have h5 := pts_five q
    have hlt2 : labTo (m : Int) (toI (pts q)) (toI (pts q)).length := by
      intro j hj
      rw [toI_length] at hj
      rw [toI_getD]
      have := bit_in hq (mem_pts.1 (getD_of_lt hj)).2
      omega
    rw [labB, inB, hv, Int.toNat_natCast, hsb, decide_eq_true hlt2, toI_length, decide_eq_true (show (pts q).length ≤ 12 by omega)]
    rfl
  have hT : lrF (lrT ns (ps.map Int.toNat) (labs q (ns.getD k 0))) (toI ns).length = some k := by
    refine lrF_some (by rw [toI_length]; exact hk) ?_ ?_
    · rw [lrT, decide_eq_true (labs_own hmem), labs_seen hm hq, decide_eq_true hsub]
      rfl
    · intro i hi
      rw [lrT, labs_seen hm hq, Bool.and_eq_false_iff]
      by_cases h1 : ns.getD i 0 ∈ nowTo ns (labs q (ns.getD k 0)) (labs q (ns.getD k 0)).length
      · right
        rw [decide_eq_false_iff_not]
        intro h2
        have hi2 : ns.getD i 0 ∈ ns := getD_of_lt (by omega)
        have h3 := labs_now (show q < 32 by omega) (show ns.getD k 0 < 32 by omega) (show ns.getD i 0 < 32 by have := hcl.lt _ hi2; omega) h1
        refine pl_apart hpt (by omega) hk hi (and_parts ?_ hsub h2)
        rw [Nat.xor_comm]
        exact h3
      · left
        exact decide_eq_false h1
  have hvs : vsB (m : Int) (toI ns) (labs q (ns.getD k 0)) = true := by
    rw [vsB, hv, labs_pts hq, labs_len, decide_eq_true (show (pts q).length ≤ 12 by have := pts_five q; omega)]
    rfl
  have hO : lrO (m : Int) (toI ns) ps (labs q (ns.getD k 0)) = some k := by
    rw [lrO, if_pos (by rw [hvs, hr]; rfl), toNat_toI, hT]
  refine ⟨hlab, ?_, ?_, ?_⟩
  · rw [labL, if_pos hlab, Int.toNat_natCast]; rfl
  · rw [lrB, hO]; rfl
  · rw [lrN, hO, lrV, toI_getD]

/-- the plan of all points is a plan -/
theorem rep_all {m : Nat} {ns : List Nat} (hcl : Cls m ns) (hv : vldB (m : Int) (toI ns) = true) : repB (m : Int) (toI ns) (List.replicate ns.length (((2 ^ m - 1 : Nat)) : Int)) = true := by
  have hm := hcl.pts
  have h32 := pow_le_32 hm
  have hpos : 0 < 2 ^ m := Nat.two_pow_pos m
  rw [repB_in hv, List.length_replicate, decide_eq_true rfl, Bool.true_and]
  have hps : ∀ j, j < ns.length → (List.replicate ns.length (((2 ^ m - 1 : Nat)) : Int)).getD j 0 = ((2 ^ m - 1 : Nat) : Int) := by
    intro j hj
    rw [List.getD_eq_getElem?_getD, List.getElem?_replicate, if_pos hj, Option.getD_some]
  have key : ∀ k, k ≤ ns.length → plTo m ns (List.replicate ns.length (((2 ^ m - 1 : Nat)) : Int)) k = true := by
    intro k
    induction k with
    | zero => intro _; rfl
    | succ k ih =>
      intro hk
      rw [plTo_succ, ih (by omega), hps k (by omega)]
      have hsb : setB m ((2 ^ m - 1 : Nat) : Int) = true := by
        have : ((2 ^ m : Nat) : Int) = (2 : Int) ^ m := by simp
        obtain ⟨r, hr⟩ : ∃ r, r = 2 ^ m := ⟨_, rfl⟩
        rw [← hr] at this hpos ⊢
        simp only [setB, Bool.and_eq_true, decide_eq_true_eq]
        omega
      have hcT : clTo ns ((List.replicate ns.length (((2 ^ m - 1 : Nat)) : Int)).map Int.toNat) k k = false := by
        rw [clTo, List.any_eq_false]
        intro j hj
        rw [List.mem_range] at hj
        rw [clsh, ps_getD (hps k (by omega)), ps_getD (hps j (by omega)), Nat.or_self, decide_eq_true_eq]
        intro e
        have h1 := hcl.lt _ (getD_of_lt (show k < ns.length by omega))
        have h2 := hcl.lt _ (getD_of_lt (show j < ns.length by omega))
        have h3 : ns.getD k 0 ^^^ ns.getD j 0 < 2 ^ m := Nat.xor_lt_two_pow h1 h2
        rw [Nat.and_two_pow_sub_one_eq_mod, Nat.mod_eq_of_lt h3] at e
        have h4 : ns.getD j 0 < ns.getD k 0 := by
          have hj2 : j < ns.length := by omega
          have hk2 : k < ns.length := by omega
          rw [List.getD_eq_getElem?_getD, List.getD_eq_getElem?_getD, List.getElem?_eq_getElem hj2, List.getElem?_eq_getElem hk2, Option.getD_some, Option.getD_some]
          exact List.pairwise_iff_getElem.1 hcl.asc j k hj2 hk2 hj
        have h5 : ns.getD k 0 = ns.getD j 0 := by
          have := congrArg (· ^^^ ns.getD j 0) e
          simpa [Nat.xor_assoc] using this
        omega
      rw [hsb, hcT, Bool.and_false]
      rfl
  exact key _ (Nat.le_refl _)

end Go.Proofs.YtlnnoeicboamgaaDoor
