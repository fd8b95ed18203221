/- spec.ShatteredSets: the sets for which a test holds, ascending. Conditions: Sets is a slice of ints. -/
import Derived.Test.YtkamocciaaapmaaDoorShat
namespace Go.Proofs.YtkamocciaaapmaaDoor
open Go.RowKit



end Go.Proofs.YtkamocciaaapmaaDoor
