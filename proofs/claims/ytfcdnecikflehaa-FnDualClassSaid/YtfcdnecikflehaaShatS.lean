/- spec.ShatteredSets: the sets for which a test holds, ascending. Conditions: Sets is a slice of ints. -/
import Derived.Test.YtfcdnecikflehaaShat
namespace Go.Proofs.Ytfcdnecikflehaa
open Go.RowKit



end Go.Proofs.Ytfcdnecikflehaa
