/- spec.ShatteredSets: the sets for which a test holds, ascending. Conditions: Sets is a slice of ints. -/
import Derived.Test.YtffmcibpboejnaaShat
namespace Go.Proofs.Ytffmcibpboejnaa
open Go.RowKit



end Go.Proofs.Ytffmcibpboejnaa
