/- The pairs of sets that differ at one point, as a list. No program. -/
import Derived.Test.YtpkilacappjkhaaCubM
import Derived.Test.YtpkilacappjkhaaZA
namespace Go.Proofs.Ytpkilacappjkhaa
open Go.RowKit

/-- s and t differ at one point -/
def adj (s t : Nat) : Bool := pc (s ^^^ t) == 1
/-- the pairs of the set at i with those behind it, among the first k -/
def egIn (ns : List Nat) (i k : Nat) : List (Int × Int) := ((List.range k).filter (fun j => decide (i < j) && adj (ns.getD i 0) (ns.getD j 0))).map (fun j => (((ns.getD i 0 : Nat) : Int), ((ns.getD j 0 : Nat) : Int)))
theorem egIn_nil (ns : List Nat) (i : Nat) : egIn ns i (i + 1) = [] := by
  rw [egIn, List.map_eq_nil_iff, List.filter_eq_nil_iff]
  intro j hj h
  rw [List.mem_range] at hj
  rw [Bool.and_eq_true, decide_eq_true_eq] at h
  omega
theorem egIn_yes {ns : List Nat} {i k : Nat} (hik : i < k) (h : adj (ns.getD i 0) (ns.getD k 0) = true) : egIn ns i (k + 1) = egIn ns i k ++ [(((ns.getD i 0 : Nat) : Int), ((ns.getD k 0 : Nat) : Int))] := by
  have h2 : (decide (i < k) && adj (ns.getD i 0) (ns.getD k 0)) = true := by rw [h, decide_eq_true hik]; rfl
  simp only [egIn, List.range_succ, List.filter_append, List.map_append, List.filter_cons, List.filter_nil, h2, ↓reduceIte, List.map_cons, List.map_nil]
theorem egIn_no {ns : List Nat} {i k : Nat} (h : adj (ns.getD i 0) (ns.getD k 0) = false) : egIn ns i (k + 1) = egIn ns i k := by
  have h2 : (decide (i < k) && adj (ns.getD i 0) (ns.getD k 0)) = false := by rw [h, Bool.and_false]
  simp only [egIn, List.range_succ, List.filter_append, List.filter_cons, List.filter_nil, h2, Bool.false_eq_true, ↓reduceIte, List.append_nil]
theorem egIn_len (ns : List Nat) (i k : Nat) : (egIn ns i k).length ≤ k := by
  rw [egIn, List.length_map]
  have := List.length_filter_le (fun j => decide (i < j) && adj (ns.getD i 0) (ns.getD j 0)) (List.range k)
  rw [List.length_range] at this
  exact this
/-- the pairs of the first i sets with those behind each -/
def egTo (ns : List Nat) (i : Nat) : List (Int × Int) := (List.range i).flatMap (fun j => egIn ns j ns.length)
theorem egTo_succ (ns : List Nat) (i : Nat) : egTo ns (i + 1) = egTo ns i ++ egIn ns i ns.length := by
  simp [egTo, List.range_succ, List.flatMap_append]
theorem egTo_len {ns : List Nat} (h : ns.length ≤ 32) (i : Nat) : (egTo ns i).length ≤ i * 32 := by
  induction i with
  | zero => simp [egTo]
  | succ i ih =>
    rw [egTo_succ, List.length_append]
    have h1 := egIn_len ns i ns.length
    omega
/-- the edges of any class: none where it is not valid -/
def egL (n : Int) (zs : List Int) : List (Int × Int) := if vldB n zs = true then egTo (zs.map Int.toNat) (zs.map Int.toNat).length else []
theorem egL_in {m : Nat} {ns : List Nat} (h : vldB (m : Int) (toI ns) = true) : egL (m : Int) (toI ns) = egTo ns ns.length := by rw [egL, if_pos h, toNat_toI]
theorem egL_bad {n : Int} {zs : List Int} (h : vldB n zs = false) : egL n zs = [] := by rw [egL, h]; rfl
theorem egL_len (n : Int) (zs : List Int) : (egL n zs).length ≤ 1048576 := by
  by_cases hv : vldB n zs = true
  · obtain ⟨m, ns, rfl, rfl, hc⟩ := vldB_cls hv
    rw [egL_in hv]
    have h1 := egTo_len hc.length ns.length
    have h2 := hc.length
    omega
  · rw [Bool.not_eq_true] at hv
    rw [egL_bad hv]
    simp

end Go.Proofs.Ytpkilacappjkhaa
