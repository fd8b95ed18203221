/- The least ones of a list, and the first smallest set that teaches: mathematics. No conditions. -/
import Derived.Test.YtnoppclajhfnjaaDoorLmn
import Derived.Test.YtnoppclajhfnjaaDoorTeachM
namespace Go.Proofs.YtnoppclajhfnjaaDoor
open Go.RowKit

/-- the best one so far, from b0 on -/
def bstN (p : Nat → Bool) (b0 k : Nat) : Nat := (List.range k).foldl (fun b s => if p s = true ∧ pc s < pc b then s else b) b0
theorem bstN_succ (p : Nat → Bool) (b0 k : Nat) : bstN p b0 (k + 1) = if p k = true ∧ pc k < pc (bstN p b0 k) then k else bstN p b0 k := by
  unfold bstN
  rw [List.range_succ, List.foldl_append]
  rfl
theorem bstN_spec (p : Nat → Bool) (b0 k : Nat) : (bstN p b0 k = b0 ∨ (bstN p b0 k < k ∧ p (bstN p b0 k) = true ∧ ∀ s, s < bstN p b0 k → p s = true → pc (bstN p b0 k) < pc s)) ∧ (∀ s, s < k → p s = true → pc (bstN p b0 k) ≤ pc s) := by
  induction k with
  | zero => exact ⟨.inl rfl, fun s hs => by omega⟩
  | succ k ih =>
    rw [bstN_succ]
    by_cases h : p k = true ∧ pc k < pc (bstN p b0 k)
    · rw [if_pos h]
      refine ⟨.inr ⟨by omega, h.1, fun s hs hp => ?_⟩, fun s hs hp => ?_⟩
      · have := ih.2 s hs hp
        omega
      · by_cases e : s = k
        · rw [e]; exact Nat.le_refl _
        · have := ih.2 s (by omega) hp
          omega
    · rw [if_neg h]
      refine ⟨?_, fun s hs hp => ?_⟩
      · rcases ih.1 with e | ⟨h1, h2, h3⟩
        · exact .inl e
        · exact .inr ⟨by omega, h2, h3⟩
      · by_cases e : s = k
        · subst e
          apply Classical.byContradiction
          intro hc
          exact h ⟨hp, by omega⟩
        · exact ih.2 s (by omega) hp
theorem full_and {m u : Nat} (hm : m ≤ 5) (hu : u < 2 ^ m) : u &&& (2 ^ m - 1) = u := by
  have key : ∀ m : Fin 6, ∀ u : Fin 32, (u : Nat) < 2 ^ (m : Nat) → (u : Nat) &&& (2 ^ (m : Nat) - 1) = u := by decide +kernel
  exact key ⟨m, by omega⟩ ⟨u, Nat.lt_of_lt_of_le hu (pow_le_32 hm)⟩ hu
theorem cut_pc {m s : Nat} (hm : m ≤ 5) (hs : s < 32) : s &&& (2 ^ m - 1) < 2 ^ m ∧ pc (s &&& (2 ^ m - 1)) ≤ pc s ∧ (pc (s &&& (2 ^ m - 1)) = pc s → s &&& (2 ^ m - 1) = s) := by
  have key : ∀ m : Fin 6, ∀ s : Fin 32, (s : Nat) &&& (2 ^ (m : Nat) - 1) < 2 ^ (m : Nat) ∧ pc ((s : Nat) &&& (2 ^ (m : Nat) - 1)) ≤ pc (s : Nat) ∧ (pc ((s : Nat) &&& (2 ^ (m : Nat) - 1)) = pc (s : Nat) → (s : Nat) &&& (2 ^ (m : Nat) - 1) = s) := by decide +kernel
  exact key ⟨m, by omega⟩ ⟨s, hs⟩
theorem full_pc {m s : Nat} (hm : m ≤ 5) (hs : s < 2 ^ m) (h : s ≠ 2 ^ m - 1) : pc s < pc (2 ^ m - 1) := by
  have key : ∀ m : Fin 6, ∀ s : Fin 32, (s : Nat) < 2 ^ (m : Nat) → (s : Nat) ≠ 2 ^ (m : Nat) - 1 → pc (s : Nat) < pc (2 ^ (m : Nat) - 1) := by decide +kernel
  exact key ⟨m, by omega⟩ ⟨s, Nat.lt_of_lt_of_le hs (pow_le_32 hm)⟩ hs h
theorem agr_cut {m t s : Nat} {l : List Nat} (h : Cls m l) (ht : t ∈ l) : agr t (s &&& (2 ^ m - 1)) l = agr t s l := by
  refine List.filter_congr (fun u hu => ?_)
  have e : ∀ u, u ∈ l → u &&& (s &&& (2 ^ m - 1)) = u &&& s := fun u hu => by
    rw [← Nat.and_assoc, Nat.and_comm (u &&& s), ← Nat.and_assoc, Nat.and_comm (2 ^ m - 1), full_and h.pts (h.lt u hu)]
  rw [e u hu, e t ht]
theorem tch_full {m t : Nat} {l : List Nat} (h : Cls m l) (ht : t ∈ l) : tch t (2 ^ m - 1) l = true := by
  have e : agr t (2 ^ m - 1) l = l.filter (fun u => u == t) := by
    refine List.filter_congr (fun u hu => ?_)
    rw [full_and h.pts (h.lt u hu), full_and h.pts (h.lt t ht)]
  rw [tch, e, beq_iff_eq]
  refine asc_ext (h.asc.filter _) (List.pairwise_singleton _ _) (fun x => ?_)
  simp only [List.mem_filter, beq_iff_eq, List.mem_singleton]
  exact ⟨fun hx => hx.2, fun hx => ⟨hx ▸ ht, hx⟩⟩
/-- the sets of points that teach t -/
def tcs (t : Nat) (l : List Nat) : List Nat := flt (fun s => tch t s l)
theorem tcs_none {t : Nat} {l : List Nat} (h : ¬ t ∈ l) : tcs t l = [] := by
  rw [tcs, flt, List.filter_eq_nil_iff]
  intro s _ hs
  rw [tch_count] at hs
  simp [h] at hs
/-- the fewest points that teach t -/
def ftN (m t : Nat) (l : List Nat) : Nat := bstN (fun s => tch t s l) (2 ^ m - 1) (2 ^ m)
theorem ft_eq {m t : Nat} {l : List Nat} (h : Cls m l) (ht : t ∈ l) : (lmn (fun s => (pc s : Int)) (tcs t l)).1.getD 0 0 = ftN m t l ∧ tcs t l ≠ [] ∧ ftN m t l < 2 ^ m ∧ tch t (ftN m t l) l = true := by
  have hm := h.pts
  have hp := Nat.two_pow_pos m
  have h32 := pow_le_32 hm
  have hf := tch_full h ht
  obtain ⟨hb, hmin⟩ := bstN_spec (fun s => tch t s l) (2 ^ m - 1) (2 ^ m)
  have hbT : ftN m t l < 2 ^ m ∧ tch t (ftN m t l) l = true := by
    rcases hb with e | ⟨e1, e2, _⟩
    · rw [ftN, e]; exact ⟨by omega, hf⟩
    · exact ⟨e1, e2⟩
  have hmem : ∀ s, s ∈ tcs t l ↔ s < 32 ∧ tch t s l = true := fun s => by rw [tcs, mem_flt]
  have hne : tcs t l ≠ [] := List.ne_nil_of_mem ((hmem (2 ^ m - 1)).2 ⟨by omega, hf⟩)
  refine ⟨?_, hne, hbT⟩
  rcases lmn_good (fun s => (pc s : Int)) (tcs t l) with ⟨e, _⟩ | ⟨g1, g2, g3⟩
  · exact absurd e hne
  obtain ⟨s1, rest, es⟩ := List.exists_cons_of_ne_nil g1
  have hs1 : s1 ∈ (tcs t l).filter (fun v => decide ((pc v : Int) = (lmn (fun s => (pc s : Int)) (tcs t l)).2)) := by rw [← g2, es]; simp
  have hs1a := (hmem s1).1 (List.mem_filter.1 hs1).1
  have hs1b : (pc s1 : Int) = (lmn (fun s => (pc s : Int)) (tcs t l)).2 := by simpa using (List.mem_filter.1 hs1).2
  rw [es]
  show s1 = ftN m t l
  -- the first one lies within the points of the class
  have hc := cut_pc hm hs1a.1
  have hcT : tch t (s1 &&& (2 ^ m - 1)) l = true := by rw [tch, agr_cut h ht]; exact hs1a.2
  have hle : (lmn (fun s => (pc s : Int)) (tcs t l)).2 ≤ (pc (s1 &&& (2 ^ m - 1)) : Int) := g3 _ ((hmem (s1 &&& (2 ^ m - 1))).2 ⟨by omega, hcT⟩)
  have hs1m : s1 < 2 ^ m := by
    have := hc.2.2 (by omega)
    omega
  have hle2 : (lmn (fun s => (pc s : Int)) (tcs t l)).2 ≤ (pc (ftN m t l) : Int) := g3 _ ((hmem (ftN m t l)).2 ⟨by omega, hbT.2⟩)
  have hle3 : pc (ftN m t l) ≤ pc s1 := hmin s1 hs1m hs1a.2
  have hpe : pc s1 = pc (ftN m t l) := by omega
  -- it is the least number of its size
  have hasc : ((lmn (fun s => (pc s : Int)) (tcs t l)).1).Pairwise (· < ·) := by rw [g2]; exact (flt_asc _).filter _
  have hfm : ftN m t l ∈ (lmn (fun s => (pc s : Int)) (tcs t l)).1 := by
    rw [g2]
    exact List.mem_filter.2 ⟨(hmem _).2 ⟨by omega, hbT.2⟩, by simp; omega⟩
  rw [es] at hasc hfm
  rcases List.mem_cons.1 hfm with e | e
  · exact e.symm
  · have hlt := (List.pairwise_cons.1 hasc).1 _ e
    rcases hb with e2 | ⟨_, _, e3⟩
    · have := full_pc hm hs1m (by rw [← show ftN m t l = 2 ^ m - 1 from e2]; omega)
      rw [← show ftN m t l = 2 ^ m - 1 from e2] at this
      omega
    · have := e3 s1 hlt hs1a.2
      have h8 : pc (ftN m t l) < pc s1 := this
      omega

end Go.Proofs.YtnoppclajhfnjaaDoor
