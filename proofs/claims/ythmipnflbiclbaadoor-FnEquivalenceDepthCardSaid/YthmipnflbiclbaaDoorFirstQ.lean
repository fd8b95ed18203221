/- FirstQuestion, the program's and the model's. Conditions: Sets is a slice of ints; the table setsWith is laid. -/
import Derived.Deep.RegionHeld3
import Derived.Deep.RegionWith
import Derived.Test.YthmipnflbiclbaaDoorMemb
namespace Go.Proofs.YthmipnflbiclbaaDoor
open Go.RowKit

/-- the first of five points for which P holds -/
def fst5 (P : Nat → Bool) : Option Nat := (List.range 5).find? P
def fstN (P : Nat → Bool) : Int := ((fst5 P).getD 0 : Nat)
def fstB (P : Nat → Bool) : Bool := (fst5 P).isSome
theorem fst5_at {P : Nat → Bool} {k : Nat} (hk : k < 5) (h : P k = true) (hb : ∀ j, j < k → P j = false) : fst5 P = some k := by
  unfold fst5
  rw [List.find?_eq_some_iff_append]
  refine ⟨h, List.range k, List.range' (k + 1) (4 - k), ?_, fun j hj => by rw [hb j (List.mem_range.1 hj)]; rfl⟩
  have : k = 0 ∨ k = 1 ∨ k = 2 ∨ k = 3 ∨ k = 4 := by omega
  rcases this with rfl | rfl | rfl | rfl | rfl <;> decide
theorem fst5_none {P : Nat → Bool} (hb : ∀ j, j < 5 → P j = false) : fst5 P = none := by
  unfold fst5
  rw [List.find?_eq_none]
  intro j hj
  rw [hb j (List.mem_range.1 hj)]
  simp

/-- is the question for x good? -/
def fqP (l : List Nat) (x : Nat) : Bool := decide (max (qst (wth x l)) (qst (wto x l)) < qst l)
theorem qst_nn (l : List Nat) : 0 ≤ qst l := (dep_bdQu 32 l).1
theorem qst_top (l : List Nat) : qst l ≤ 32 := (dep_bdQu 32 l).2
theorem wto_of_nil {x : Nat} {l : List Nat} (h : wth x l = []) : wto x l = l := by
  rw [wto, List.filter_eq_self]
  intro t ht
  rw [wth, List.filter_eq_nil_iff] at h
  simpa using h t ht
theorem wth_of_nil {x : Nat} {l : List Nat} (h : wto x l = []) : wth x l = l := by
  rw [wth, List.filter_eq_self]
  intro t ht
  rw [wto, List.filter_eq_nil_iff] at h
  simpa using h t ht
theorem fqP_skip {x : Nat} {l : List Nat} (h : wth x l = [] ∨ wto x l = []) : fqP l x = false := by
  rw [fqP, decide_eq_false_iff_not]
  have := qst_nn l
  rcases h with h | h
  · rw [wto_of_nil h, h]; omega
  · rw [wth_of_nil h, h]; omega
theorem qst_min {x : Nat} {l : List Nat} (hx : x < 5) (hl : l.length ≤ 32) (h1 : wth x l ≠ []) (h2 : wto x l ≠ []) : qst l ≤ 1 + max (qst (wth x l)) (qst (wto x l)) := by
  have hlen := split_len x l h1 h2
  rw [qst_fuel (wth x l) (by omega), qst_fuel (wto x l) (by omega)]
  have key : ∀ k, x < k → depTo max min 31 l k ≤ 1 + max (dep max min 31 (wth x l)) (dep max min 31 (wto x l)) := by
    intro k
    induction k with
    | zero => intro h; omega
    | succ k ih =>
      intro h
      rw [depTo_succ, stp]
      by_cases e : x = k
      · subst e
        rw [if_neg (by simp [h1, h2])]
        split <;> omega
      · have := ih (by omega)
        have b0 := (depTo_bdQu 31 l k).1
        split
        · exact this
        · split
          · omega
          · rename_i hz
            exfalso
            have hpos : 0 < depTo max min 31 l k := by
              have key2 : ∀ j, (0 ≤ depTo max min 31 l j) ∧ (x < j → 0 < depTo max min 31 l j) := by
                intro j
                induction j with
                | zero => exact ⟨by simp [depTo], fun h => by omega⟩
                | succ j ihj =>
                  have a1 := (dep_bdQu 31 (wth j l)).1
                  have a2 := (dep_bdQu 31 (wto j l)).1
                  rw [depTo_succ, stp]
                  split
                  · rename_i hs
                    refine ⟨ihj.1, fun h => ihj.2 ?_⟩
                    by_cases e : x = j
                    · subst e; exact absurd hs (by simp [h1, h2])
                    · omega
                  · split
                    · exact ⟨by omega, fun _ => by omega⟩
                    · exact ⟨by omega, fun _ => by omega⟩
              exact (key2 k).2 (by omega)
            omega
  exact key 5 hx
theorem fqP_eq {x : Nat} {l : List Nat} (hx : x < 5) (hl : l.length ≤ 32) (h1 : wth x l ≠ []) (h2 : wto x l ≠ []) : fqP l x = decide (1 + max (qst (wth x l)) (qst (wto x l)) = qst l) := by
  have := qst_min hx hl h1 h2
  rw [fqP, decide_eq_decide]
  omega



def fqN (n : Int) (zs : List Int) : Int := if vldB n zs = true then fstN (fqP (zs.map Int.toNat)) else 0
def fqB (n : Int) (zs : List Int) : Bool := if vldB n zs = true then fstB (fqP (zs.map Int.toNat)) else false



end Go.Proofs.YthmipnflbiclbaaDoor
