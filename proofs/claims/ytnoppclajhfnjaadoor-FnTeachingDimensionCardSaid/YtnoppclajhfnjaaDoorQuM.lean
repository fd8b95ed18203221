/- The mathematics of FnMembershipDepth: questions, numbers of sets and of points, and what teaches. Conditions: the class is valid. -/
import Derived.Test.YtnoppclajhfnjaaDoorGreatM
import Derived.Test.YtnoppclajhfnjaaDoorLitM
import Derived.Test.YtnoppclajhfnjaaDoorTDim
namespace Go.Proofs.YtnoppclajhfnjaaDoor
open Go.RowKit

theorem qst_cut {l : List Nat} (h32 : ∀ t ∈ l, t < 32) (has : l.Pairwise (· < ·)) (hl : l.length ≤ 32) (h2 : 2 ≤ l.length) : ∃ x, x < 5 ∧ wth x l ≠ [] ∧ wto x l ≠ [] ∧ qst l = 1 + max (qst (wth x l)) (qst (wto x l)) := by
  have hp := qst_pos h32 has h2
  rcases depTo_att 31 l 5 (by omega) with h0 | ⟨x, hx, h1, h3, h4⟩
  · have : qst l = depTo max min 31 l 5 := rfl
    omega
  · have hlen := split_len x l h1 h3
    refine ⟨x, hx, h1, h3, ?_⟩
    rw [qst_fuel (wth x l) (by omega), qst_fuel (wto x l) (by omega), ← h4]
    rfl
theorem qst_pow : ∀ (N : Nat) (l : List Nat), l.length ≤ N → l.length ≤ 32 → (∀ t ∈ l, t < 32) → l.Pairwise (· < ·) → l.length ≤ 2 ^ (qst l).toNat := by
  intro N
  induction N with
  | zero =>
    intro l hN _ _ _
    have : 0 < 2 ^ (qst l).toNat := Nat.two_pow_pos _
    omega
  | succ N ih =>
    intro l hN hl h32 has
    by_cases h2 : 2 ≤ l.length
    · obtain ⟨x, hx, h1, h3, h4⟩ := qst_cut h32 has hl h2
      have hs := split_len x l h1 h3
      have hlen := parts_len x l
      have i1 := ih (wth x l) (by omega) (by omega) (fun t ht => h32 t (wth_mem.1 ht).1) (has.filter _)
      have i2 := ih (wto x l) (by omega) (by omega) (fun t ht => h32 t (wto_mem.1 ht).1) (has.filter _)
      have n1 := qst_nn (wth x l)
      have n2 := qst_nn (wto x l)
      have e : (qst l).toNat = max (qst (wth x l)).toNat (qst (wto x l)).toNat + 1 := by omega
      rw [e, Nat.pow_succ]
      have j1 : 2 ^ (qst (wth x l)).toNat ≤ 2 ^ max (qst (wth x l)).toNat (qst (wto x l)).toNat := Nat.pow_le_pow_right (by omega) (Nat.le_max_left _ _)
      have j2 : 2 ^ (qst (wto x l)).toNat ≤ 2 ^ max (qst (wth x l)).toNat (qst (wto x l)).toNat := Nat.pow_le_pow_right (by omega) (Nat.le_max_right _ _)
      omega
    · have : 0 < 2 ^ (qst l).toNat := Nat.two_pow_pos _
      omega
theorem qst_few : ∀ (N : Nat) (l : List Nat), l.length ≤ N → l.length ≤ 32 → (∀ t ∈ l, t < 32) → l.Pairwise (· < ·) → qst l ≤ max ((l.length : Int) - 1) 0 := by
  intro N
  induction N with
  | zero =>
    intro l hN _ _ _
    rw [qst_small (by omega)]
    omega
  | succ N ih =>
    intro l hN hl h32 has
    by_cases h2 : 2 ≤ l.length
    · obtain ⟨x, hx, h1, h3⟩ := split_ex h32 has h2
      have hs := split_len x l h1 h3
      have hlen := parts_len x l
      have i1 := ih (wth x l) (by omega) (by omega) (fun t ht => h32 t (wth_mem.1 ht).1) (has.filter _)
      have i2 := ih (wto x l) (by omega) (by omega) (fun t ht => h32 t (wto_mem.1 ht).1) (has.filter _)
      have h4 := qst_min hx hl h1 h3
      have p1 := List.length_pos_iff.2 h1
      have p2 := List.length_pos_iff.2 h3
      omega
    · rw [qst_small (by omega)]
      omega
/-- tch, said of each set -/
theorem tch_iff {t s : Nat} {l : List Nat} (has : l.Pairwise (· < ·)) : tch t s l = true ↔ t ∈ l ∧ ∀ u ∈ l, u &&& s = t &&& s → u = t := by
  rw [tch, beq_iff_eq]
  constructor
  · intro e
    have ht : t ∈ agr t s l := by rw [e]; simp
    refine ⟨agr_sub ht, fun u hu hus => ?_⟩
    have : u ∈ agr t s l := List.mem_filter.2 ⟨hu, by simpa using hus⟩
    rw [e] at this
    simpa using this
  · rintro ⟨ht, hu⟩
    have hp : (agr t s l).Pairwise (· < ·) := has.filter _
    have hall : ∀ u ∈ agr t s l, u = t := fun u h => hu u (agr_sub h) (by simpa using (List.mem_filter.1 h).2)
    have hm : t ∈ agr t s l := mem_agr ht
    generalize agr t s l = g at *
    match g, hp, hall, hm with
    | [], _, _, hm => cases hm
    | [a], _, hall, _ => rw [hall a (by simp)]
    | a :: b :: g, hp, hall, _ =>
      exfalso
      have h1 := hall a (by simp)
      have h2 := hall b (by simp)
      have := List.rel_of_pairwise_cons hp (a' := b) (by simp)
      omega
theorem or_bit {x s u t : Nat} (hx : x < 5) (hs : s < 32) (hu : u < 32) (ht : t < 32) : pc (s ||| 2 ^ x) ≤ pc s + 1 ∧ s ||| 2 ^ x < 32 ∧ (u &&& (s ||| 2 ^ x) = t &&& (s ||| 2 ^ x) → hasX x u = hasX x t ∧ u &&& s = t &&& s) := by
  have k1 : ∀ x : Fin 5, ∀ s : Fin 32, pc ((s : Nat) ||| 2 ^ (x : Nat)) ≤ pc (s : Nat) + 1 ∧ (s : Nat) ||| 2 ^ (x : Nat) < 32 := by decide +kernel
  have k2 : ∀ x : Fin 5, ∀ s : Fin 32, ∀ u : Fin 32, hasX (x : Nat) (u : Nat) = hasX (x : Nat) ((u : Nat) &&& ((s : Nat) ||| 2 ^ (x : Nat))) ∧ (u : Nat) &&& (s : Nat) = ((u : Nat) &&& ((s : Nat) ||| 2 ^ (x : Nat))) &&& (s : Nat) := by decide +kernel
  refine ⟨(k1 ⟨x, hx⟩ ⟨s, hs⟩).1, (k1 ⟨x, hx⟩ ⟨s, hs⟩).2, fun h => ?_⟩
  have a := k2 ⟨x, hx⟩ ⟨s, hs⟩ ⟨u, hu⟩
  have b := k2 ⟨x, hx⟩ ⟨s, hs⟩ ⟨t, ht⟩
  simp only at a b
  exact ⟨by rw [a.1, b.1, h], by rw [a.2, b.2, h]⟩
/-- who is asked teaches -/
theorem ask_tch : ∀ (N : Nat) (l : List Nat) (t : Nat), l.length ≤ N → l.length ≤ 32 → (∀ u ∈ l, u < 32) → l.Pairwise (· < ·) → t ∈ l → ∃ s, s < 32 ∧ (pc s : Int) ≤ qst l ∧ tch t s l = true := by
  intro N
  induction N with
  | zero =>
    intro l t hN _ _ _ ht
    have := List.length_pos_iff.2 (ne_of_mem ht)
    omega
  | succ N ih =>
    intro l t hN hl h32 has ht
    by_cases h2 : 2 ≤ l.length
    · obtain ⟨x, hx, h1, h3, h4⟩ := qst_cut h32 has hl h2
      have hs := split_len x l h1 h3
      have key : ∀ g : List Nat, g.length < l.length → g.Pairwise (· < ·) → (∀ u, u ∈ g ↔ u ∈ l ∧ hasX x u = hasX x t) → 1 + qst g ≤ qst l → ∃ s, s < 32 ∧ (pc s : Int) ≤ qst l ∧ tch t s l = true := by
        intro g hg hga hmem hq
        obtain ⟨s, hs32, hsp, hst⟩ := ih g t (by omega) (by omega) (fun u hu => h32 u ((hmem u).1 hu).1) hga ((hmem t).2 ⟨ht, rfl⟩)
        have ho := or_bit hx hs32 (h32 t ht) (h32 t ht)
        refine ⟨s ||| 2 ^ x, ho.2.1, by have := ho.1; omega, ?_⟩
        rw [tch_iff has]
        rw [tch_iff hga] at hst
        refine ⟨ht, fun u hu hus => ?_⟩
        have h9 := (or_bit hx hs32 (h32 u hu) (h32 t ht)).2.2 hus
        exact hst.2 u ((hmem u).2 ⟨hu, h9.1⟩) h9.2
      cases hxt : hasX x t with
      | true => exact key (wth x l) hs.1 (has.filter _) (fun u => by rw [wth_mem, hxt]) (by omega)
      | false => exact key (wto x l) hs.2 (has.filter _) (fun u => by rw [wto_mem, hxt]) (by omega)
    · refine ⟨0, by omega, by rw [qst_small (by omega)]; simp [pc], ?_⟩
      rw [tch_iff has]
      refine ⟨ht, fun u hu _ => ?_⟩
      match l, h2, ht, hu with
      | [], _, ht, _ => cases ht
      | [a], _, ht, hu => simp at ht hu; omega
      | a :: b :: l, h2, _, _ => simp at h2
/-- the first points that teach are as few as any -/
theorem ftN_least {m t s : Nat} {l : List Nat} (h : Cls m l) (ht : t ∈ l) (hs : s < 32) (hst : tch t s l = true) : pc (ftN m t l) ≤ pc s := by
  have hc := cut_pc (m := m) h.pts hs
  have hst2 : tch t (s &&& (2 ^ m - 1)) l = true := by rw [tch, agr_cut h ht]; exact hst
  have := (bstN_spec (fun s => tch t s l) (2 ^ m - 1) (2 ^ m)).2 _ hc.1 hst2
  exact Nat.le_trans this hc.2.1
theorem td_le {m : Nat} {ns : List Nat} (h : Cls m ns) (hv : vldB (m : Int) (toI ns) = true) : tdB (m : Int) (toI ns) ≤ qst ns := by
  rw [tdB]
  have hnat := tnsL_nat (m : Int) (toI ns)
  rw [tnsL_in hv] at hnat ⊢
  rw [tns_len]
  by_cases h0 : ns.length = 0
  · rw [h0]
    have := qst_nn ns
    show (-1 : Int) ≤ _
    omega
  · obtain ⟨j, hj, e⟩ := gTo_mem hnat ns.length (by omega) (by rw [tns_len]; omega)
    rw [e, tns_getD hj]
    have hm : ns.getD j 0 ∈ ns := getD_of_lt hj
    obtain ⟨s, hs, hp, hst⟩ := ask_tch ns.length ns _ (Nat.le_refl _) h.length h.lt32 h.asc hm
    have := ftN_least h hm hs hst
    omega
theorem lit_ask {m : Nat} {ns : List Nat} (h : Cls m ns) (h0 : ns ≠ []) : mst ns ≤ qst ns := by
  have h1 := lit_pow h.length h0
  have h2 := qst_pow ns.length ns (Nat.le_refl _) h.length h.lt32 h.asc
  have h3 : 2 ^ (mst ns).toNat ≤ 2 ^ (qst ns).toNat := by omega
  have h4 := (Nat.pow_le_pow_iff_right (by omega)).1 h3
  have := qst_nn ns
  omega

end Go.Proofs.YtnoppclajhfnjaaDoor
