/- spec.ShatteredSets: the sets for which a test holds, ascending. Conditions: Sets is a slice of ints. -/
import Derived.Test.YtgldckgecoijfaaShat
namespace Go.Proofs.Ytgldckgecoijfaa
open Go.RowKit



end Go.Proofs.Ytgldckgecoijfaa
