/- OptimalRun, the program's and the model's. Conditions: Sets is a slice of ints, the list one of examples; the table setsWith is laid. -/
import Derived.Deep.RegionHeld3
import Derived.Test.YtffmcibpboejnaaDoorKp
import Derived.Test.YtffmcibpboejnaaDoorLittleS
import Derived.Test.YtffmcibpboejnaaDoorSamp
namespace Go.Proofs.YtffmcibpboejnaaDoor
open Go.RowKit

/-- what is left behind k examples -/
def nowTo (ns : List Nat) (es : List (Int × Bool)) : Nat → List Nat
  | 0 => ns
  | k + 1 => kp (nowTo ns es k) (es.getD k (0, false))
/-- the mistakes of a rule behind k examples -/
def misTo (G : List Nat → Nat → Bool) (ns : List Nat) (es : List (Int × Bool)) : Nat → Int
  | 0 => 0
  | k + 1 => misTo G ns es k + (if G (nowTo ns es k) (es.getD k (0, false)).1.toNat = (es.getD k (0, false)).2 then 0 else 1)
theorem misTo_bd (G : List Nat → Nat → Bool) (ns : List Nat) (es : List (Int × Bool)) (k : Nat) : 0 ≤ misTo G ns es k ∧ misTo G ns es k ≤ k := by
  induction k with
  | zero => simp [misTo]
  | succ k ih =>
    rw [misTo]
    split <;> omega
theorem nowTo_sub (ns : List Nat) (es : List (Int × Bool)) (k : Nat) : (∀ t ∈ nowTo ns es k, t ∈ ns) ∧ (nowTo ns es k).length ≤ ns.length := by
  induction k with
  | zero => exact ⟨fun t h => h, Nat.le_refl _⟩
  | succ k ih =>
    refine ⟨fun t h => ih.1 t (List.mem_filter.1 h).1, Nat.le_trans (List.length_filter_le _ _) ih.2⟩
def gOpt (l : List Nat) (x : Nat) : Bool := decide (mst (wto x l) < mst (wth x l))
def runB (G : List Nat → Nat → Bool) (n : Int) (zs : List Int) (es : List (Int × Bool)) : Int := if vsB n zs es = true then misTo G (zs.map Int.toNat) es es.length else -1
theorem pts_at {n : Int} {es : List (Int × Bool)} (h : ptsTo n es es.length = true) {k : Nat} (hk : k < es.length) : 0 ≤ (es.getD k (0, false)).1 ∧ (es.getD k (0, false)).1 < n := by
  simp only [ptsTo, List.all_eq_true, List.mem_range, Bool.and_eq_true, decide_eq_true_eq] at h
  exact h k hk




end Go.Proofs.YtffmcibpboejnaaDoor
