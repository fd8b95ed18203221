/- The least sets of points that teach a set, as a list. No program. -/
import Derived.Test.YthmipnflbiclbaaDoorZA
import Derived.Test.YthmipnflbiclbaaDoorZX
namespace Go.Proofs.YthmipnflbiclbaaDoor
open Go.RowKit

/-- s without a point -/
def clr (s : Nat) (y : Fin 5) : Nat := if hasX y.val s = true then s - 2 ^ y.val else s
theorem clr_bits : ∀ s : Fin 32, ∀ y : Fin 5, clr s.1 y < 32 ∧ bits .andNot .i64 ((s.1 : Nat) : Int) (IntKind.i64.wrap ((2 : Int) ^ y.1)) = ((clr s.1 y : Nat) : Int) := by decide +kernel
def hits (t : Nat) (l : List Nat) (s : Nat) (ys : List (Fin 5)) : Bool := ys.any (fun y => tch t (clr s y) l)
theorem hits_snoc (t : Nat) (l : List Nat) (s : Nat) (ys : List (Fin 5)) (y : Fin 5) : hits t l s (ys ++ [y]) = (hits t l s ys || tch t (clr s y) l) := by simp [hits]
theorem hits_pre {t : Nat} {l : List Nat} {s : Nat} {ys zs : List (Fin 5)} (h : ys <+: zs) (hh : hits t l s ys = true) : hits t l s zs = true := by
  obtain ⟨r, rfl⟩ := h
  rw [hits, List.any_append, Bool.or_eq_true]
  exact .inl hh
/-- does s teach t no more where a point is left out? -/
def mnm (t : Nat) (l : List Nat) (s : Nat) : Bool := !hits t l s (ptF 5 s)
def tsoN (t : Nat) (l : List Nat) : List Nat := (flt (fun s => tch t s l)).filter (mnm t l)
/-- what TeachingsOf answers -/
def tsoL (n : Int) (zs : List Int) (s : Int) : List Int := if inB n zs s = true then toI (tsoN s.toNat (zs.map Int.toNat)) else []
theorem tsoN_len (t : Nat) (l : List Nat) : (tsoN t l).length ≤ 32 := by
  have h1 := List.length_filter_le (mnm t l) (flt (fun s => tch t s l))
  have h2 := List.length_filter_le (fun s => tch t s l) (List.range 32)
  rw [List.length_range] at h2
  exact Nat.le_trans h1 h2
theorem tsoL_len (n : Int) (zs : List Int) (s : Int) : (tsoL n zs s).length ≤ 1048576 := by
  unfold tsoL
  split
  · rw [toI_length]; have := tsoN_len s.toNat (zs.map Int.toNat); omega
  · simp
/-- what the rounds so far have kept -/
def tsoP (t : Nat) (l : List Nat) (pre : List (Fin 32)) : List Nat := (pre.map Fin.val).filter (mnm t l)
theorem tsoP_yes {t : Nat} {l : List Nat} {pre : List (Fin 32)} {x : Fin 32} (h : mnm t l x.val = true) : tsoP t l (pre ++ [x]) = tsoP t l pre ++ [x.val] := by simp [tsoP, h]
theorem tsoP_no {t : Nat} {l : List Nat} {pre : List (Fin 32)} {x : Fin 32} (h : mnm t l x.val = false) : tsoP t l (pre ++ [x]) = tsoP t l pre := by simp [tsoP, h]
theorem tsoP_len (t : Nat) (l : List Nat) (pre : List (Fin 32)) : (tsoP t l pre).length ≤ pre.length := by
  have := List.length_filter_le (mnm t l) (pre.map Fin.val)
  rwa [List.length_map] at this
theorem tsoP_all (t : Nat) (l : List Nat) : tsoP t l (tcR (fun s => tch t s l) 32) = tsoN t l := by rw [tsoP, tcR_all]; rfl

end Go.Proofs.YthmipnflbiclbaaDoor
