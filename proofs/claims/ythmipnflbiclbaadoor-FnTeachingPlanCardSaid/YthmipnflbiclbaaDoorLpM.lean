/- Layers: their sets are all; what LearnPlan tells: mathematics. No conditions. -/
import Derived.Test.YthmipnflbiclbaaDoorZU
import Derived.Test.YthmipnflbiclbaaDoorZY
namespace Go.Proofs.YthmipnflbiclbaaDoor
open Go.RowKit

theorem filter_two (p : Nat → Bool) : ∀ l : List Nat, (l.filter p).length + (l.filter (fun t => !p t)).length = l.length
  | [] => rfl
  | a :: l => by
    have := filter_two p l
    by_cases h : p a = true
    · rw [List.filter_cons_of_pos h, List.filter_cons_of_neg (by simp [h])]
      simp only [List.length_cons]; omega
    · rw [List.filter_cons_of_neg h, List.filter_cons_of_pos (by simpa using h)]
      simp only [List.length_cons]; omega
theorem lay_two {m : Nat} {l : List Nat} (hc : Cls m l) : (lay l).length + (rst l).length = l.length := by
  rw [lay_flt hc, rst_flt hc]
  exact filter_two _ l
/-- how many sets the layers P have -/
def lyS (P : List (List Nat × List Nat)) : Nat := (P.map (fun p => p.1.length)).sum
theorem lyS_snoc (P : List (List Nat × List Nat)) (p : List Nat × List Nat) : lyS (P ++ [p]) = lyS P + p.1.length := by
  simp [lyS]
theorem lyS_lys {m : Nat} : ∀ (N : Nat) (l : List Nat), l.length ≤ N → Cls m l → lyS (lys l) = l.length := by
  intro N
  induction N with
  | zero =>
    intro l hl _
    obtain rfl : l = [] := List.eq_nil_of_length_eq_zero (by omega)
    rfl
  | succ N ih =>
    intro l hl hc
    by_cases e : l = []
    · subst e; rfl
    · have hr := rst_len e
      have h1 := ih (rst l) (by omega) (rst_cls hc)
      have h2 := lay_two hc
      rw [lys_cons e, lyS, List.map_cons, List.sum_cons]
      show (lay l).length + lyS (lys (rst l)) = l.length
      omega
theorem lyS_take {P : List (List Nat × List Nat)} {k : Nat} (hk : k < P.length) : lyS (P.take (k + 1)) = lyS (P.take k) + (P.getD k ([], [])).1.length := by
  rw [List.take_succ_eq_append_getElem hk, lyS_snoc, List.getD_eq_getElem?_getD, List.getElem?_eq_getElem hk, Option.getD_some]
theorem lyS_le (P : List (List Nat × List Nat)) (k : Nat) : lyS (P.take k) ≤ lyS P := by
  have h : lyS (P.take k) + lyS (P.drop k) = lyS P := by
    rw [lyS, lyS, lyS, ← List.sum_append, ← List.map_append, List.take_append_drop]
  omega

/-- does t have what the first k examples tell? -/
def fitK (es : List (Int × Bool)) (k t : Nat) : Bool := (List.range k).all (fun j => hasX (es.getD j (0, false)).1.toNat t == (es.getD j (0, false)).2)
theorem fitK_succ (es : List (Int × Bool)) (k t : Nat) : fitK es (k + 1) t = (fitK es k t && (hasX (es.getD k (0, false)).1.toNat t == (es.getD k (0, false)).2)) := by
  simp [fitK, List.range_succ]
theorem nowTo_flt (l : List Nat) (es : List (Int × Bool)) : ∀ k, nowTo l es k = l.filter (fitK es k)
  | 0 => by
    rw [nowTo]
    exact (List.filter_eq_self.2 (fun t _ => by simp [fitK])).symm
  | k + 1 => by
    rw [nowTo, nowTo_flt l es k, kp, List.filter_filter]
    congr 1
    funext t
    rw [fitK_succ, Bool.and_comm]
/-- what LearnPlan answers -/
def lpN (n : Int) (zs : List Int) (es : List (Int × Bool)) : Option Nat := if vsB n zs es = true then lpO (fitK es es.length) (lys (zs.map Int.toNat)) else none
def lpI (o : Option Nat) : Int := ((o.getD 0 : Nat) : Int)
def lpS (o : Option Nat) : Bool := o.isSome
theorem lpN_in {m : Nat} {ns : List Nat} {es : List (Int × Bool)} (h : vsB (m : Int) (toI ns) es = true) : lpN (m : Int) (toI ns) es = lpO (fitK es es.length) (lys ns) := by rw [lpN, if_pos h, toNat_toI]
theorem lpN_bad {n : Int} {zs : List Int} {es : List (Int × Bool)} (h : vsB n zs es = false) : lpN n zs es = none := by rw [lpN, h]; rfl
theorem lpO_take {f : Nat → Bool} {P : List (List Nat × List Nat)} {k : Nat} (hk : k < P.length) : lpO f (P.take (k + 1)) = (((P.getD k ([], [])).1.filter f).head?).or (lpO f (P.take k)) := by
  rw [List.take_succ_eq_append_getElem hk, lpO_snoc, List.getD_eq_getElem?_getD, List.getElem?_eq_getElem hk, Option.getD_some]
theorem lpO_nil (f : Nat → Bool) : lpO f [] = none := rfl
/-- the first of the first j sets that fits -/
theorem head_none {f : Nat → Bool} {l : List Nat} (h : ∀ j, j < l.length → f (l.getD j 0) = false) : (l.filter f).head? = none := by
  rw [List.head?_eq_none_iff, List.filter_eq_nil_iff]
  intro t ht
  obtain ⟨j, hj, rfl⟩ := List.getElem_of_mem ht
  have := h j hj
  rw [List.getD_eq_getElem?_getD, List.getElem?_eq_getElem hj, Option.getD_some] at this
  rw [this]; simp
theorem head_some {f : Nat → Bool} {l : List Nat} {j : Nat} (hj : j < l.length) (h : ∀ i, i < j → f (l.getD i 0) = false) (h1 : f (l.getD j 0) = true) : (l.filter f).head? = some (l.getD j 0) := by
  have hat : ∀ i, i < l.length → l.getD i 0 = l[i]! := fun i hi => by simp [List.getD_eq_getElem?_getD, hi]
  have e : l = l.take j ++ l.getD j 0 :: l.drop (j + 1) := by
    rw [List.getD_eq_getElem?_getD, List.getElem?_eq_getElem hj, Option.getD_some, ← List.drop_eq_getElem_cons hj, List.take_append_drop]
  have h0 : (l.take j).filter f = [] := by
    rw [List.filter_eq_nil_iff]
    intro t ht
    obtain ⟨i, hi, rfl⟩ := List.getElem_of_mem ht
    rw [List.length_take] at hi
    have := h i (by omega)
    rw [List.getD_eq_getElem?_getD, List.getElem?_eq_getElem (by omega), Option.getD_some] at this
    rw [List.getElem_take, this]; simp
  generalize l.getD j 0 = t at *
  rw [e, List.filter_append, h0, List.nil_append, List.filter_cons_of_pos h1]
  rfl

end Go.Proofs.YthmipnflbiclbaaDoor
