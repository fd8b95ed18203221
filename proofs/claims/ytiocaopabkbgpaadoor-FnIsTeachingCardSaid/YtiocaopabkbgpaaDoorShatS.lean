/- spec.ShatteredSets: the sets for which a test holds, ascending. Conditions: Sets is a slice of ints. -/
import Derived.Test.YtiocaopabkbgpaaDoorShat
namespace Go.Proofs.YtiocaopabkbgpaaDoor
open Go.RowKit



end Go.Proofs.YtiocaopabkbgpaaDoor
