/- spec.ShatteredSets: the sets for which a test holds, ascending. Conditions: Sets is a slice of ints. -/
import Derived.Test.YtedlnjilgabelaaDoorShat
namespace Go.Proofs.YtedlnjilgabelaaDoor
open Go.RowKit



end Go.Proofs.YtedlnjilgabelaaDoor
