/- sizeOf: how many points a set of at most five has. Conditions: the number is below 32. VCDimension, the program's and the model's. Conditions: Sets is a slice of ints. SauerBound, the program's and the model's, and the exact law on it. No conditions. -/
import Derived.Test.YtkamocciaaapmaaDoorShatS
import Derived.Test.YtkamocciaaapmaaDoorZA
namespace Go.Proofs.YtkamocciaaapmaaDoor
open Go.RowKit




end Go.Proofs.YtkamocciaaapmaaDoor

namespace Go.Proofs.YtkamocciaaapmaaDoor
open Go.RowKit

/-- the greatest size so far, -1 for none -/
def widTo (ns : List Nat) : Nat → Int
  | 0 => -1
  | k + 1 => max (widTo ns k) (pc (ns.getD k 0))
def widL (ns : List Nat) : Int := widTo ns ns.length
theorem widTo_bd (ns : List Nat) (k : Nat) : -1 ≤ widTo ns k ∧ widTo ns k ≤ 5 := by
  induction k with
  | zero => simp [widTo]
  | succ k ih =>
    have := pc_le5 (ns.getD k 0)
    simp only [widTo]
    omega
/-- the sets that are shattered -/
def shatN (n : Int) (zs : List Int) : List Nat := if vldB n zs = true then (List.range (2 ^ n.toNat)).filter (sht (zs.map Int.toNat)) else []
theorem shatL_N (n : Int) (zs : List Int) : shatL n zs = toI (shatN n zs) := by
  unfold shatL shatN
  split
  · rfl
  · rfl
theorem shatN_lt (n : Int) (zs : List Int) : ∀ t ∈ shatN n zs, t < 32 := by
  intro t ht
  unfold shatN at ht
  split at ht
  · rename_i h
    obtain ⟨m, ns, rfl, rfl, hc⟩ := vldB_cls h
    have := List.mem_range.1 (List.mem_filter.1 ht).1
    rw [Int.toNat_natCast] at this
    exact Nat.lt_of_lt_of_le this (pow_le_32 hc.pts)
  · simp at ht
theorem shatN_in {n : Nat} {ns : List Nat} (h : vldB n (toI ns) = true) : shatN n (toI ns) = (List.range (2 ^ n)).filter (sht ns) := by simp [shatN, h, toNat_toI]
def vcB (n : Int) (zs : List Int) : Int := widL (shatN n zs)
theorem vcB_bad {n : Int} {zs : List Int} (h : vldB n zs = false) : vcB n zs = -1 := by simp [vcB, shatN, h, widL, widTo]




end Go.Proofs.YtkamocciaaapmaaDoor

namespace Go.Proofs.YtkamocciaaapmaaDoor
open Go.RowKit

/-- sets below m of at most d points -/
def cntTo (d : Int) (m : Nat) : Nat := ((List.range m).filter (fun s => decide ((pc s : Int) ≤ d))).length
theorem cntTo_yes {d : Int} {m : Nat} (h : (pc m : Int) ≤ d) : cntTo d (m + 1) = cntTo d m + 1 := by simp [cntTo, List.range_succ, h]
theorem cntTo_no {d : Int} {m : Nat} (h : ¬ (pc m : Int) ≤ d) : cntTo d (m + 1) = cntTo d m := by
  have : decide ((pc m : Int) ≤ d) = false := by simpa using h
  simp [cntTo, List.range_succ, List.filter_append, this]
theorem cntTo_le (d : Int) (m : Nat) : cntTo d m ≤ m := by
  have := List.length_filter_le (fun s => decide ((pc s : Int) ≤ d)) (List.range m)
  simpa [cntTo] using this
def sauerB (n d : Int) : Int := if n < 0 ∨ 5 < n then -1 else cntTo d (2 ^ n.toNat)

def chooseTo (n : Nat) : Nat → Int
  | 0 => 1
  | i + 1 => chooseTo n i * ((n : Int) - i) / (i + 1)
theorem chooseTo_bd (n i : Nat) (hn : n ≤ 5) (hi : i ≤ n) : 0 ≤ chooseTo n i ∧ chooseTo n i ≤ 10 := by
  have : ∀ n : Fin 6, ∀ i : Fin 6, (i : Nat) ≤ n → 0 ≤ chooseTo n i ∧ chooseTo n i ≤ 10 := by decide
  exact this ⟨n, by omega⟩ ⟨i, by omega⟩ hi
def sumTo (n : Nat) : Nat → Int
  | 0 => 0
  | k + 1 => sumTo n k + chooseTo n k
theorem sumTo_bd (n k : Nat) (hn : n ≤ 5) (hk : k ≤ n + 1) : 0 ≤ sumTo n k ∧ sumTo n k ≤ 32 := by
  have : ∀ n : Fin 6, ∀ k : Fin 7, (k : Nat) ≤ n + 1 → 0 ≤ sumTo n k ∧ sumTo n k ≤ 32 := by decide
  exact this ⟨n, by omega⟩ ⟨k, by omega⟩ hk
theorem sumTo_cnt (n k : Nat) (hn : n ≤ 5) (hk : k ≤ n + 1) : sumTo n k = cntTo ((k : Int) - 1) (2 ^ n) := by
  have : ∀ n : Fin 6, ∀ k : Fin 7, (k : Nat) ≤ n + 1 → sumTo n k = cntTo (((k : Nat) : Int) - 1) (2 ^ (n : Nat)) := by decide +kernel
  exact this ⟨n, by omega⟩ ⟨k, by omega⟩ hk
theorem pc_le (n s : Nat) (hn : n ≤ 5) (hs : s < 2 ^ n) : pc s ≤ n := by
  have : ∀ n : Fin 6, ∀ s : Fin 32, (s : Nat) < 2 ^ (n : Nat) → pc s ≤ n := by decide +kernel
  exact this ⟨n, by omega⟩ ⟨s, Nat.lt_of_lt_of_le hs (pow_le_32 hn)⟩ hs
theorem cntTo_cap (n : Nat) (d e : Int) (hn : n ≤ 5) (h : ∀ p : Nat, p ≤ n → ((p : Int) ≤ d ↔ (p : Int) ≤ e)) : cntTo d (2 ^ n) = cntTo e (2 ^ n) := by
  unfold cntTo
  congr 1
  apply List.filter_congr
  intro s hs
  have := h (pc s) (pc_le n s hn (List.mem_range.1 hs))
  simp [this]





end Go.Proofs.YtkamocciaaapmaaDoor
