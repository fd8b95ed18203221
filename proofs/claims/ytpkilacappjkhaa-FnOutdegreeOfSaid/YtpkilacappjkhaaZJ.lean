/- The laws' own helpers: equality of lists, membership, size. Conditions: what the slices hold. The laws' own helpers: among, ascends, subset, points. Conditions: what the slices hold. -/
import Derived.Test.YtpkilacappjkhaaComplS
import Derived.Test.YtpkilacappjkhaaZA
import Derived.Test.YtpkilacappjkhaaZB
import Derived.Test.YtpkilacappjkhaaZH
namespace Go.Proofs.Ytpkilacappjkhaa
open Go.RowKit





end Go.Proofs.Ytpkilacappjkhaa

namespace Go.Proofs.Ytpkilacappjkhaa
open Go.RowKit


theorem asc_step {ns : List Nat} (h : ns.Pairwise (· < ·)) {k : Nat} (hk : 0 < k) (hl : k < ns.length) : ns.getD (k - 1) 0 < ns.getD k 0 := by
  rw [List.pairwise_iff_getElem] at h
  have := h (k - 1) k (by omega) hl (by omega)
  simp only [List.getD_eq_getElem?_getD, List.getElem?_eq_getElem (show k - 1 < ns.length by omega), List.getElem?_eq_getElem hl, Option.getD_some]
  exact this



/-- the points of a set -/
def pts (s : Nat) : List Nat := (List.range 5).filter (fun x => hasX x s)
def ptUp (s k : Nat) : List Nat := (List.range k).filter (fun x => hasX x s)
theorem pts_done {s k : Nat} (hs : s < 32) (hk : k ≤ 5) (h : s / 2 ^ k = 0) : ptUp s k = pts s := by
  have key : ∀ s : Fin 32, ∀ k : Fin 6, (s : Nat) / 2 ^ (k : Nat) = 0 → ptUp (s : Nat) (k : Nat) = pts (s : Nat) := by decide +kernel
  exact key ⟨s, hs⟩ ⟨k, by omega⟩ h


end Go.Proofs.Ytpkilacappjkhaa
