/- The program's ShiftClass. Conditions: Sets is a slice of ints. -/
import Derived.Test.YtpkilacappjkhaaZH
namespace Go.Proofs.Ytpkilacappjkhaa
open Go.RowKit

/-- a set without x -/
def low (x s : Nat) : Nat := if hasX x s = true then s - 2 ^ x else s
theorem low_le (x s : Nat) : low x s ≤ s := by
  unfold low
  split
  · exact Nat.sub_le _ _
  · exact Nat.le_refl _
/-- what becomes of s -/
def shs (x : Nat) (ns : List Nat) (s : Nat) : Nat := if low x s ∈ ns then s else low x s
theorem shs_le (x : Nat) (ns : List Nat) (s : Nat) : shs x ns s ≤ s := by
  unfold shs
  have := low_le x s
  split <;> omega
theorem shs_bits {x s : Nat} (hx : x < 5) (hs : s < 32) : bits .andNot .i64 (s : Int) ((2 : Int) ^ x) = ((low x s : Nat) : Int) := by
  have key : ∀ x : Fin 5, ∀ s : Fin 32, bits .andNot .i64 ((s : Nat) : Int) ((2 : Int) ^ (x : Nat)) = ((low x s : Nat) : Int) := by decide +kernel
  exact key ⟨x, hx⟩ ⟨s, hs⟩
theorem low_ge {x s : Nat} (h : hasX x s = true) : 2 ^ x ≤ s := by
  simp only [hasX, decide_eq_true_eq] at h
  rcases Nat.lt_or_ge s (2 ^ x) with h2 | h2
  · rw [Nat.div_eq_of_lt h2] at h
    omega
  · exact h2
theorem low_has (x s : Nat) : hasX x (low x s) = false := by
  unfold low
  split
  · rename_i h
    have h2 := low_ge h
    simp only [hasX, decide_eq_true_eq, decide_eq_false_iff_not] at *
    obtain ⟨t, rfl⟩ := Nat.exists_eq_add_of_le h2
    have hp : 0 < 2 ^ x := Nat.two_pow_pos x
    rw [Nat.add_sub_cancel_left]
    rw [Nat.add_div_left _ hp] at h
    omega
  · rename_i h
    exact Bool.eq_false_iff.2 h
theorem low_of {x s : Nat} (h : hasX x s = false) : low x s = s := by rw [low, if_neg (by simp [h])]
theorem low_inj {x s t : Nat} (hs : hasX x s = true) (ht : hasX x t = true) (e : low x s = low x t) : s = t := by
  have h1 := low_ge hs
  have h2 := low_ge ht
  simp only [low, hs, ht, if_true] at e
  omega
theorem shs_has {x s : Nat} {ns : List Nat} (h : hasX x (shs x ns s) = true) : shs x ns s = s := by
  unfold shs at *
  split
  · rfl
  · rename_i h2
    rw [if_neg h2, low_has] at h
    cases h

/-- what is a key behind k rounds -/
def shK (x : Nat) (ns : List Nat) (k : Nat) (y : Nat) : Bool := decide (y ∈ (ns.take k).map (shs x ns) ++ ns.drop k)
theorem shK_all (x : Nat) (ns : List Nat) (y : Nat) : shK x ns ns.length y = decide (y ∈ ns.map (shs x ns)) := by simp [shK]

theorem shK_step (x : Nat) {ns : List Nat} {k : Nat} (ha : ns.Pairwise (· < ·)) (hk : k < ns.length) :
    (shK x ns k (low x (ns.getD k 0)) = true → shK x ns (k + 1) = shK x ns k) ∧
    (shK x ns k (low x (ns.getD k 0)) = false → shK x ns (k + 1) = fun y => decide (y = low x (ns.getD k 0)) || (!decide (y = ns.getD k 0) && shK x ns k y)) := by
  have e1 : ns.take (k + 1) = ns.take k ++ [ns.getD k 0] := by
    rw [List.take_add_one, List.getElem?_eq_getElem hk, List.getD_eq_getElem?_getD, List.getElem?_eq_getElem hk]; rfl
  have e2 : ns.drop k = ns.getD k 0 :: ns.drop (k + 1) := by
    rw [List.drop_eq_getElem_cons hk, List.getD_eq_getElem?_getD, List.getElem?_eq_getElem hk]; rfl
  have e3 : ns = ns.take k ++ ns.getD k 0 :: ns.drop (k + 1) := by rw [← e2, List.take_append_drop]
  have hnd : ∀ t, t ∈ ns.take k → t ≠ ns.getD k 0 := by
    intro t ht
    rw [e3, List.pairwise_append] at ha
    have := ha.2.2 t ht (ns.getD k 0) (by simp)
    omega
  have hnd2 : ∀ t, t ∈ ns.drop (k + 1) → t ≠ ns.getD k 0 := by
    intro t ht
    rw [e3, List.pairwise_append] at ha
    have := (List.pairwise_cons.1 ha.2.1).1 t ht
    omega
  have hin : ∀ t, t ∈ ns ↔ t ∈ ns.take k ∨ t = ns.getD k 0 ∨ t ∈ ns.drop (k + 1) := by
    intro t
    conv => lhs; rw [e3]
    simp
  have hshK : ∀ y, shK x ns k y = true ↔ (∃ t, t ∈ ns.take k ∧ shs x ns t = y) ∨ y = ns.getD k 0 ∨ y ∈ ns.drop (k + 1) := by
    intro y
    simp only [shK, e2, decide_eq_true_eq, List.mem_append, List.mem_map, List.mem_cons]
  have hshK1 : ∀ y, shK x ns (k + 1) y = true ↔ (∃ t, t ∈ ns.take k ∧ shs x ns t = y) ∨ y = shs x ns (ns.getD k 0) ∨ y ∈ ns.drop (k + 1) := by
    intro y
    simp only [shK, e1, List.map_append, List.map_cons, List.map_nil, decide_eq_true_eq, List.mem_append, List.mem_map, List.mem_cons, List.not_mem_nil, or_false]
    rw [or_assoc]
  generalize ns.getD k 0 = s at *
  -- lower is a key exactly if it is one of ns
  have hkey : shK x ns k (low x s) = true ↔ low x s ∈ ns := by
    rw [hshK, hin]
    constructor
    · rintro (⟨t, ht, e⟩ | h)
      · by_cases h2 : low x t ∈ ns
        · rw [shs, if_pos h2] at e
          subst e
          exact .inl ht
        · rw [shs, if_neg h2] at e
          rw [e] at h2
          have hl := (show ¬ _ from fun h => h2 ((hin (low x s)).2 h))
          exfalso
          by_cases hs : hasX x s = true
          · by_cases htx : hasX x t = true
            · exact hnd t ht (low_inj htx hs e)
            · rw [Bool.not_eq_true] at htx
              rw [low_of htx] at e
              exact hl (.inl (e ▸ ht))
          · rw [Bool.not_eq_true] at hs
            exact hl (.inr (.inl (low_of hs)))
      · exact .inr h
    · rintro (h | h)
      · refine .inl ⟨low x s, h, ?_⟩
        rw [shs, low_of (low_has x s), if_pos ((hin _).2 (.inl h))]
      · exact .inr h
  refine ⟨fun h => ?_, fun h => ?_⟩
  · funext y
    have hs : shs x ns s = s := by rw [shs, if_pos (hkey.1 h)]
    rw [Bool.eq_iff_iff, hshK1, hshK, hs]
  · have h' : ¬ low x s ∈ ns := fun hh => by rw [hkey.2 hh] at h; cases h
    have hs : shs x ns s = low x s := by rw [shs, if_neg h']
    have hsx : hasX x s = true := by
      by_cases hh : hasX x s = true
      · exact hh
      · rw [Bool.not_eq_true] at hh
        exact absurd ((hin _).2 (.inr (.inl (low_of hh)))) h'
    funext y
    rw [Bool.eq_iff_iff, hshK1, hs]
    simp only [Bool.or_eq_true, Bool.and_eq_true, decide_eq_true_eq, Bool.not_eq_true', decide_eq_false_iff_not, hshK]
    constructor
    · rintro (⟨t, ht, e⟩ | h2 | h2)
      · refine .inr ⟨?_, .inl ⟨t, ht, e⟩⟩
        intro e2
        have : hasX x (shs x ns t) = true := by rw [e, e2]; exact hsx
        have h3 := shs_has this
        exact hnd t ht (by rw [← h3, e, e2])
      · exact .inl h2
      · exact .inr ⟨hnd2 y h2, .inr (.inr h2)⟩
    · rintro (h2 | ⟨h1, h2 | h2 | h2⟩)
      · exact .inr (.inl h2)
      · exact .inl h2
      · exact absurd h2 h1
      · exact .inr (.inr h2)

def shN (n : Int) (zs : List Int) (x : Int) : Int := if ptB n zs x = true then n else 0
def shL (n : Int) (zs : List Int) (x : Int) : List Int := if ptB n zs x = true then toI (tidyL ((zs.map Int.toNat).map (shs x.toNat (zs.map Int.toNat)))) else []
theorem shL_len (n : Int) (zs : List Int) (x : Int) : (shL n zs x).length ≤ 1048576 := by
  unfold shL
  split
  · rw [toI_length]
    have := flt_length (fun p => decide (p ∈ (zs.map Int.toNat).map (shs x.toNat (zs.map Int.toNat))))
    unfold tidyL
    omega
  · simp


end Go.Proofs.Ytpkilacappjkhaa
