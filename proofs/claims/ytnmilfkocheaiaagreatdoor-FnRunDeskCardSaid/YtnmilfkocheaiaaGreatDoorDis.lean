/- DisagreementOf, the program's and the model's. Conditions: Sets is a slice of ints; the table setsWith is laid. -/
import Derived.Test.YtnmilfkocheaiaaGreatDoorZB
import Derived.Test.YtnmilfkocheaiaaGreatDoorZU
namespace Go.Proofs.YtnmilfkocheaiaaGreatDoor
open Go.RowKit

/-- do the sets differ at x? -/
def disP (ns : List Nat) (x : Nat) : Bool := decide (wth x ns ≠ []) && decide (wto x ns ≠ [])
def disL (n : Int) (zs : List Int) : List Int := if vldB n zs = true then toI ((List.range n.toNat).filter (disP (zs.map Int.toNat))) else []
theorem disL_len (n : Int) (zs : List Int) : (disL n zs).length ≤ 1048576 := by
  unfold disL
  split
  · rename_i hv
    obtain ⟨m, ns, rfl, rfl, hc⟩ := vldB_cls hv
    rw [toI_length, Int.toNat_natCast]
    have := filt_le (disP ((toI ns).map Int.toNat)) m
    have := hc.pts
    omega
  · simp
theorem wth_lt {x : Nat} {ns : List Nat} (h32 : ∀ t ∈ ns, t < 32) : ∀ t ∈ wth x ns, t < 32 := fun t ht => h32 t (List.mem_filter.1 ht).1
theorem wto_lt {x : Nat} {ns : List Nat} (h32 : ∀ t ∈ ns, t < 32) : ∀ t ∈ wto x ns, t < 32 := fun t ht => h32 t (List.mem_filter.1 ht).1



end Go.Proofs.YtnmilfkocheaiaaGreatDoor
