/- Plans without clashes, as lists: what the program and the model test. No program. -/
import Derived.Test.YthmipnflbiclbaaDoorZA
namespace Go.Proofs.YthmipnflbiclbaaDoor
open Go.RowKit

/-- do the sets at i and j clash? -/
def clsh (ns ps : List Nat) (i j : Nat) : Bool := decide ((ns.getD i 0 ^^^ ns.getD j 0) &&& (ps.getD i 0 ||| ps.getD j 0) = 0)
/-- does the set at i clash with one of the first k? -/
def clTo (ns ps : List Nat) (i k : Nat) : Bool := (List.range k).any (fun j => clsh ns ps i j)
theorem clTo_succ (ns ps : List Nat) (i k : Nat) : clTo ns ps i (k + 1) = (clTo ns ps i k || clsh ns ps i k) := by
  simp [clTo, List.range_succ]
theorem clTo_mono {ns ps : List Nat} {i k : Nat} (h : clTo ns ps i (k + 1) = false) : clTo ns ps i k = false ∧ clsh ns ps i k = false := by
  rw [clTo_succ, Bool.or_eq_false_iff] at h
  exact h
theorem clTo_hit {ns ps : List Nat} {i k j : Nat} (hj : j < k) (h : clsh ns ps i j = true) : clTo ns ps i k = true := by
  rw [clTo, List.any_eq_true]
  exact ⟨j, List.mem_range.2 hj, h⟩
/-- are the first k of the plan sets of m points that do not clash? -/
def plTo (m : Nat) (ns : List Nat) (ps : List Int) : Nat → Bool
  | 0 => true
  | k + 1 => plTo m ns ps k && (setB m (ps.getD k 0) && !(decide (k < ns.length) && clTo ns (ps.map Int.toNat) k k))
theorem plTo_succ (m : Nat) (ns : List Nat) (ps : List Int) (k : Nat) : plTo m ns ps (k + 1) = (plTo m ns ps k && (setB m (ps.getD k 0) && !(decide (k < ns.length) && clTo ns (ps.map Int.toNat) k k))) := rfl
theorem plTo_bad {m : Nat} {ns : List Nat} {ps : List Int} {k : Nat} (h : plTo m ns ps k = false) (j : Nat) : plTo m ns ps (k + j) = false := by
  induction j with
  | zero => exact h
  | succ j ih => rw [← Nat.add_assoc, plTo_succ, ih, Bool.false_and]
theorem plTo_stop {m : Nat} {ns : List Nat} {ps : List Int} {k l : Nat} (h : plTo m ns ps k = false) (hk : k ≤ l) : plTo m ns ps l = false := by
  have := plTo_bad h (l - k)
  rwa [show k + (l - k) = l by omega] at this
theorem plTo_sets {m : Nat} {ns : List Nat} {ps : List Int} {k : Nat} (hm : m ≤ 5) (h : plTo m ns ps k = true) : ∀ j, j < k → ∃ p : Nat, p < 32 ∧ ps.getD j 0 = (p : Int) ∧ setB m (ps.getD j 0) = true := by
  induction k with
  | zero => intro j hj; omega
  | succ k ih =>
    rw [plTo_succ, Bool.and_eq_true, Bool.and_eq_true] at h
    intro j hj
    by_cases e : j = k
    · subst e
      obtain ⟨p, hp, _, h32⟩ := setB_nat hm h.2.1
      exact ⟨p, h32, hp, h.2.1⟩
    · exact ih h.1 j (by omega)
theorem ps_getD {ps : List Int} {j p : Nat} (h : ps.getD j 0 = (p : Int)) : (ps.map Int.toNat).getD j 0 = p := by
  rw [List.getD_eq_getElem?_getD, List.getElem?_map]
  rw [List.getD_eq_getElem?_getD] at h
  cases e : ps[j]? with
  | none =>
    rw [e] at h
    simp at h ⊢
    omega
  | some z =>
    rw [e] at h
    simp at h ⊢
    omega
/-- what IsRepresentation answers -/
def repB (n : Int) (zs ps : List Int) : Bool := vldB n zs && (decide (ps.length = zs.length) && plTo n.toNat (zs.map Int.toNat) ps ps.length)
theorem repB_bad {n : Int} {zs ps : List Int} (h : vldB n zs = false) : repB n zs ps = false := by rw [repB, h, Bool.false_and]
theorem repB_in {m : Nat} {ns : List Nat} {ps : List Int} (h : vldB (m : Int) (toI ns) = true) : repB (m : Int) (toI ns) ps = (decide (ps.length = ns.length) && plTo m ns ps ps.length) := by
  rw [repB, h, Bool.true_and, toI_length, toNat_toI, Int.toNat_natCast]

end Go.Proofs.YthmipnflbiclbaaDoor
