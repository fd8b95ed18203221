/- Marks read at an index; the sets below a bound for which a test holds. No conditions. -/
import Derived.Test.YtejjimfoihhcoabDoorArr2
import Derived.Test.YtejjimfoihhcoabDoorApp
import Derived.Test.YtejjimfoihhcoabDoorTrace
namespace Go.Proofs.YtejjimfoihhcoabDoor
open Go.RowKit



theorem filt_yes {p : Nat → Bool} {k : Nat} (h : p k = true) : (List.range (k + 1)).filter p = (List.range k).filter p ++ [k] := by simp [List.range_succ, h]
theorem filt_no {p : Nat → Bool} {k : Nat} (h : p k = false) : (List.range (k + 1)).filter p = (List.range k).filter p := by simp [List.range_succ, h]
theorem filt_le (p : Nat → Bool) (k : Nat) : ((List.range k).filter p).length ≤ k := by have := List.length_filter_le p (List.range k); simpa using this

end Go.Proofs.YtejjimfoihhcoabDoor
