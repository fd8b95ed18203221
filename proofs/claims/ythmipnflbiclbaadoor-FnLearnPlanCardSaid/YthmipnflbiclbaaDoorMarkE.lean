/- The laws' marks on examples: markExampleS writes into a slice, heldExampleS looks for them. Conditions: at most 1048576 examples, which the call may write. -/
import Derived.Test.YthmipnflbiclbaaDoorZB
import Derived.Test.YthmipnflbiclbaaDoorZU
namespace Go.Proofs.YthmipnflbiclbaaDoor
open Go.RowKit

/-- the marks of n examples from k on -/
def rampE (k n : Nat) : List (Int × Bool) := (List.range n).map (fun i : Nat => ((k : Int) + 2 * (i : Int), ((k : Int) + 2 * (i : Int) + 1) % 3 == 0))
theorem rampE_length (k n : Nat) : (rampE k n).length = n := by simp [rampE]
theorem rampE_getD (k n i : Nat) (h : i < n) : (rampE k n).getD i (0, false) = ((k : Int) + 2 * (i : Int), ((k : Int) + 2 * (i : Int) + 1) % 3 == 0) := by simp [rampE, List.getD, h]
theorem ExS.row_ge {B b : Nat} {w : World} {v : Value} {es : List (Int × Bool)} (h : ExS B w v es) (hb : b < B) : ∀ k, v.ownBlock = some k → b < k := by
  intro k hk
  rcases h.2 with ⟨rfl, _⟩ | ⟨g, cap, cur, rfl, hB, _⟩
  · cases hk
  · obtain rfl := Option.some.inj hk
    show b < g
    omega
theorem ExS.lt {B : Nat} {w : World} {v : Value} {es : List (Int × Bool)} (h : ExS B w v es) (k : Nat) (hk : v.ownBlock = some k) : B ≤ k ∧ k < w.heap.size := by
  rcases h.2 with ⟨rfl, _⟩ | ⟨g, cap, cur, rfl, hB, hg, _⟩
  · cases hk
  · cases hk
    exact ⟨hB, (Array.getElem?_eq_some_iff.1 hg).1⟩
theorem ExS.kept {B : Nat} {w w' : World} {v : Value} {es : List (Int × Bool)} {row : Option Nat} (h : ExS B w v es) (hg : w.grownBy w' row) (hne : v.ownBlock = none ∨ v.ownBlock ≠ row) : ExS B w' v es := World.ownsRow.kept h hg hne
theorem ExS.cast {B : Nat} {w : World} {v : Value} {es fs : List (Int × Bool)} (h : ExS B w v es) (e : es = fs) : ExS B w v fs := e ▸ h



end Go.Proofs.YthmipnflbiclbaaDoor
