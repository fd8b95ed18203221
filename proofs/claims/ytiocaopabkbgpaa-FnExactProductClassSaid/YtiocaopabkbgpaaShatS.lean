/- spec.ShatteredSets: the sets for which a test holds, ascending. Conditions: Sets is a slice of ints. -/
import Derived.Test.YtiocaopabkbgpaaShat
namespace Go.Proofs.Ytiocaopabkbgpaa
open Go.RowKit



end Go.Proofs.Ytiocaopabkbgpaa
