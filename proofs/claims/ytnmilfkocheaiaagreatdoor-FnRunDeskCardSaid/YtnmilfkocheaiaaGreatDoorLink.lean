/- The program's LinkOf. Conditions: Sets is a slice of ints. -/
import Derived.Test.YtnmilfkocheaiaaGreatDoorZH
namespace Go.Proofs.YtnmilfkocheaiaaGreatDoor
open Go.RowKit

/-- is s a set without x that is there with x, too? -/
def lnkP (x : Nat) (ns : List Nat) (s : Nat) : Bool := !(hasX x s) && decide (s + 2 ^ x ∈ ns)
theorem or_add {x s : Nat} (hx : x < 5) (hs : s < 32) (h : ¬ hasX x s = true) : s ||| 2 ^ x = s + 2 ^ x := by
  have key : ∀ x : Fin 5, ∀ s : Fin 32, ¬ hasX x s = true → (s : Nat) ||| 2 ^ (x : Nat) = s + 2 ^ (x : Nat) := by decide +kernel
  exact key ⟨x, hx⟩ ⟨s, hs⟩ h
theorem shr_and1 (s x : Nat) (hs : s < 32) (_hx : x < 5) : bits .and .i64 ((s : Int) / 2 ^ x) 1 = ((s / 2 ^ x % 2 : Nat) : Int) := by
  have h1 : ((s : Int) / 2 ^ x) = ((s / 2 ^ x : Nat) : Int) := by simp
  have h2 : s / 2 ^ x < 4096 := Nat.lt_of_le_of_lt (Nat.div_le_self _ _) (by omega)
  have h3 := i64_and (s / 2 ^ x) 1 h2 (by omega)
  rw [h1]
  rw [Nat.and_one_is_mod] at h3
  exact h3
def lnkL (n : Int) (zs : List Int) (x : Int) : List Int := if ptB n zs x = true then toI (tidyL (((zs.map Int.toNat).filter (lnkP x.toNat (zs.map Int.toNat))).map (rmv x.toNat))) else []
theorem lnkL_len (n : Int) (zs : List Int) (x : Int) : (lnkL n zs x).length ≤ 1048576 := by
  unfold lnkL
  split
  · rw [toI_length]
    have := flt_length (fun p => decide (p ∈ ((zs.map Int.toNat).filter (lnkP x.toNat (zs.map Int.toNat))).map (rmv x.toNat)))
    unfold tidyL
    omega
  · simp


end Go.Proofs.YtnmilfkocheaiaaGreatDoor
