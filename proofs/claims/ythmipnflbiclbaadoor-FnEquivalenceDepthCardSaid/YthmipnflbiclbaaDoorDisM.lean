/- The points at which sets of a class differ: mathematics. Condition: a valid class. -/
import Derived.Test.YthmipnflbiclbaaDoorDis
import Derived.Test.YthmipnflbiclbaaDoorMembS
import Derived.Test.YthmipnflbiclbaaDoorZG
import Derived.Test.YthmipnflbiclbaaDoorZH
namespace Go.Proofs.YthmipnflbiclbaaDoor
open Go.RowKit

theorem pt_parts {x t : Nat} (hx : x < 5) (ht : t < 32) : (t &&& 2 ^ x = t → t = 0 ∨ t = 2 ^ x) ∧ (t &&& 2 ^ x = 2 ^ x ↔ hasX x t = true) ∧ (t &&& 2 ^ x = 0 ↔ hasX x t = false) ∧ (hasX x t = true → 2 ^ x ≤ t) := by
  have key : ∀ x : Fin 5, ∀ t : Fin 32, ((t : Nat) &&& 2 ^ (x : Nat) = (t : Nat) → (t : Nat) = 0 ∨ (t : Nat) = 2 ^ (x : Nat)) ∧ ((t : Nat) &&& 2 ^ (x : Nat) = 2 ^ (x : Nat) ↔ hasX x t = true) ∧ ((t : Nat) &&& 2 ^ (x : Nat) = 0 ↔ hasX x t = false) ∧ (hasX x t = true → 2 ^ (x : Nat) ≤ (t : Nat)) := by decide +kernel
  exact key ⟨x, hx⟩ ⟨t, ht⟩

theorem ne_of_mem {l : List Nat} {t : Nat} (h : t ∈ l) : l ≠ [] := by intro e; rw [e] at h; cases h

theorem disP_iff {ns : List Nat} {x : Nat} : disP ns x = true ↔ (∃ t ∈ ns, hasX x t = true) ∧ ∃ t ∈ ns, hasX x t = false := by
  simp only [disP, Bool.and_eq_true, decide_eq_true_eq]
  constructor
  · rintro ⟨h1, h2⟩
    obtain ⟨t, ht⟩ := List.exists_mem_of_ne_nil _ h1
    obtain ⟨u, hu⟩ := List.exists_mem_of_ne_nil _ h2
    exact ⟨⟨t, wth_mem.1 ht⟩, ⟨u, wto_mem.1 hu⟩⟩
  · rintro ⟨⟨t, h1, h2⟩, ⟨u, h3, h4⟩⟩
    exact ⟨ne_of_mem (wth_mem.2 ⟨h1, h2⟩), ne_of_mem (wto_mem.2 ⟨h3, h4⟩)⟩

theorem sht_pt {m x : Nat} {ns : List Nat} (h : Cls m ns) (hx : x < m) : sht ns (2 ^ x) = disP ns x := by
  have hx5 : x < 5 := Nat.lt_of_lt_of_le hx h.pts
  have hs : 2 ^ x < 2 ^ m := Nat.pow_lt_pow_right (by omega) hx
  rw [sht_sh h hs, Bool.eq_iff_iff, shF_iff h.pts _ hs, disP_iff]
  constructor
  · intro hh
    obtain ⟨t, h1, h2, h3⟩ := hh (2 ^ x) hs (Nat.and_self _)
    obtain ⟨u, g1, g2, g3⟩ := hh 0 (Nat.pow_pos (by omega)) (Nat.zero_and _)
    have h2' : t ∈ ns := by simpa [inF] using h2
    have g2' : u ∈ ns := by simpa [inF] using g2
    exact ⟨⟨t, h2', (pt_parts hx5 (h.lt32 t h2')).2.1.1 h3⟩, ⟨u, g2', (pt_parts hx5 (h.lt32 u g2')).2.2.1.1 g3⟩⟩
  · rintro ⟨⟨t, h1, h2⟩, ⟨u, h3, h4⟩⟩ v hv hvs
    rcases (pt_parts hx5 (Nat.lt_of_lt_of_le hv (pow_le_32 h.pts))).1 hvs with e | e
    · subst e
      exact ⟨u, h.lt u h3, by simpa [inF] using h3, (pt_parts hx5 (h.lt32 u h3)).2.2.1.2 h4⟩
    · subst e
      exact ⟨t, h.lt t h1, by simpa [inF] using h1, (pt_parts hx5 (h.lt32 t h1)).2.1.2 h2⟩

theorem dis_any {m : Nat} {ns : List Nat} (h : Cls m ns) : 0 < ((List.range m).filter (disP ns)).length ↔ 1 < ns.length := by
  constructor
  · intro h0
    obtain ⟨x, hx⟩ := List.exists_mem_of_length_pos h0
    obtain ⟨⟨t, h1, h2⟩, ⟨u, h3, h4⟩⟩ := disP_iff.1 (List.mem_filter.1 hx).2
    have hne : t ≠ u := by intro e; subst e; rw [h2] at h4; cases h4
    match ns, h1, h3 with
    | [a], h1, h3 =>
      rw [List.mem_singleton] at h1 h3
      exact absurd (h1.trans h3.symm) hne
    | a :: b :: r, _, _ => simp
  · intro h1
    obtain ⟨x, hx5, h2, h3⟩ := split_ex h.lt32 h.asc (by omega)
    obtain ⟨t, ht⟩ := List.exists_mem_of_ne_nil _ h2
    obtain ⟨h4, h5⟩ := wth_mem.1 ht
    have hle := (pt_parts hx5 (h.lt32 t h4)).2.2.2 h5
    have hxm : x < m := (Nat.pow_lt_pow_iff_right (by omega : 1 < 2)).1 (Nat.lt_of_le_of_lt hle (h.lt t h4))
    exact List.length_pos_of_mem (List.mem_filter.2 ⟨List.mem_range.2 hxm, by simp only [disP, Bool.and_eq_true, decide_eq_true_eq]; exact ⟨h2, h3⟩⟩)

theorem dis_has {m x : Nat} {ns : List Nat} (hx : x < m) : hasB (toI ((List.range m).filter (disP ns))) (x : Int) = disP ns x := by
  rw [hasB_nat, Bool.eq_iff_iff, decide_eq_true_eq, List.mem_filter, List.mem_range]
  exact ⟨fun h => h.2, fun h => ⟨hx, h⟩⟩
theorem dis_asc (m : Nat) (ns : List Nat) : ((List.range m).filter (disP ns)).Pairwise (· < ·) := (range_asc m).filter _

end Go.Proofs.YthmipnflbiclbaaDoor
