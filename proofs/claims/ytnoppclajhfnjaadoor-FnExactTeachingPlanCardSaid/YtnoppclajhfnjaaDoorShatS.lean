/- spec.ShatteredSets: the sets for which a test holds, ascending. Conditions: Sets is a slice of ints. -/
import Derived.Test.YtnoppclajhfnjaaDoorShat
namespace Go.Proofs.YtnoppclajhfnjaaDoor
open Go.RowKit



end Go.Proofs.YtnoppclajhfnjaaDoor
