/- impl.ShatteredSets: the sets for which a test holds, ascending. Conditions: Sets is a slice of ints. -/
import Derived.Test.YtkamocciaaapmaaDoorZB
namespace Go.Proofs.YtkamocciaaapmaaDoor
open Go.RowKit

/-- what impl.ShatteredSets answers -/
def shatL (n : Int) (zs : List Int) : List Int := if vldB n zs = true then toI ((List.range (2 ^ n.toNat)).filter (sht (zs.map Int.toNat))) else []
theorem shatL_bad {n : Int} {zs : List Int} (h : vldB n zs = false) : shatL n zs = [] := by simp [shatL, h]
theorem shatL_in {n : Nat} {ns : List Nat} (h : vldB n (toI ns) = true) : shatL n (toI ns) = toI ((List.range (2 ^ n)).filter (sht ns)) := by simp [shatL, h, toNat_toI]
theorem shatL_len (n : Int) (zs : List Int) : (shatL n zs).length ≤ 1048576 := by
  unfold shatL
  split
  · rename_i h
    obtain ⟨m, ns, rfl, rfl, hc⟩ := vldB_cls h
    rw [toI_length, Int.toNat_natCast]
    have := filt_le (sht ((toI ns).map Int.toNat)) (2 ^ m)
    have := pow_le_32 hc.pts
    omega
  · simp



end Go.Proofs.YtkamocciaaapmaaDoor
