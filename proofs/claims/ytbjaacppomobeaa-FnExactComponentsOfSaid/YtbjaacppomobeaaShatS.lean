/- spec.ShatteredSets: the sets for which a test holds, ascending. Conditions: Sets is a slice of ints. -/
import Derived.Test.YtbjaacppomobeaaShat
namespace Go.Proofs.Ytbjaacppomobeaa
open Go.RowKit



end Go.Proofs.Ytbjaacppomobeaa
