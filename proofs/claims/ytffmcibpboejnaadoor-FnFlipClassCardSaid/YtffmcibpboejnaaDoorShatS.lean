/- spec.ShatteredSets: the sets for which a test holds, ascending. Conditions: Sets is a slice of ints. -/
import Derived.Test.YtffmcibpboejnaaDoorShat
namespace Go.Proofs.YtffmcibpboejnaaDoor
open Go.RowKit



end Go.Proofs.YtffmcibpboejnaaDoor
