/- The model's FlipClass. Conditions: Sets is a slice of ints. -/
import Derived.Test.YtejjimfoihhcoaaFlip
import Derived.Test.YtejjimfoihhcoaaApp
import Derived.Test.YtejjimfoihhcoaaValS
import Derived.Deep.RegionWith
namespace Go.Proofs.Ytejjimfoihhcoaa
open Go.RowKit


/-- what f makes of the first k of ns -/
def mapTo (f : Nat → Nat) (ns : List Nat) (k : Nat) : List Nat := (List.range k).map (fun j => f (ns.getD j 0))
theorem mapTo_succ (f : Nat → Nat) (ns : List Nat) (k : Nat) : mapTo f ns (k + 1) = mapTo f ns k ++ [f (ns.getD k 0)] := by simp [mapTo, List.range_succ]
theorem mapTo_length (f : Nat → Nat) (ns : List Nat) (k : Nat) : (mapTo f ns k).length = k := by simp [mapTo]
theorem mapTo_all (f : Nat → Nat) (ns : List Nat) : mapTo f ns ns.length = ns.map f := by
  apply List.ext_getElem
  · simp [mapTo]
  · intro i h1 h2
    have h3 : i < ns.length := by simpa using h2
    simp [mapTo, List.getElem?_eq_getElem h3]


end Go.Proofs.Ytejjimfoihhcoaa
