/- What IsMaximum answers. No conditions. -/
import Derived.Test.YtejjimfoihhcoaaVC
import Derived.Test.YtejjimfoihhcoaaSauer
namespace Go.Proofs.Ytejjimfoihhcoaa
open Go.RowKit

def maxB (n : Int) (zs : List Int) : Bool := vldB n zs && decide ((zs.length : Int) = sauerB n (vcB n zs))
theorem maxB_bad {n : Int} {zs : List Int} (h : vldB n zs = false) : maxB n zs = false := by simp [maxB, h]
theorem maxB_in {n : Int} {zs : List Int} (h : vldB n zs = true) : maxB n zs = decide ((zs.length : Int) = sauerB n (vcB n zs)) := by simp [maxB, h]
theorem ret_decM {p q : Prop} [Decidable p] [Decidable q] (h : p ↔ q) : Ending.returned (.bool (decide p)) = .returned (.bool (decide q)) := by simp [h]
theorem sauerB_in {n : Nat} (h : n ≤ 5) (d : Int) : sauerB n d = (cntTo d (2 ^ n) : Nat) := by rw [sauerB, if_neg (by omega), Int.toNat_natCast]

end Go.Proofs.Ytejjimfoihhcoaa
