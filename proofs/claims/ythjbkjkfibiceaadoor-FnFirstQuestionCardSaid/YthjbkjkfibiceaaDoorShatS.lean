/- spec.ShatteredSets: the sets for which a test holds, ascending. Conditions: Sets is a slice of ints. -/
import Derived.Test.YthjbkjkfibiceaaDoorShat
namespace Go.Proofs.YthjbkjkfibiceaaDoor
open Go.RowKit



end Go.Proofs.YthjbkjkfibiceaaDoor
