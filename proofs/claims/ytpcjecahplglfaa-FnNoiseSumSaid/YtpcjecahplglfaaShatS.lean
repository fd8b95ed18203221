/- spec.ShatteredSets: the sets for which a test holds, ascending. Conditions: Sets is a slice of ints. -/
import Derived.Test.YtpcjecahplglfaaShat
namespace Go.Proofs.Ytpcjecahplglfaa
open Go.RowKit



end Go.Proofs.Ytpcjecahplglfaa
