/- spec.ShatteredSets: the sets for which a test holds, ascending. Conditions: Sets is a slice of ints. -/
import Derived.Test.YtmfekmedhmapfaaShat
namespace Go.Proofs.Ytmfekmedhmapfaa
open Go.RowKit



end Go.Proofs.Ytmfekmedhmapfaa
