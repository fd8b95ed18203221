/- spec.ShatteredSets: the sets for which a test holds, ascending. Conditions: Sets is a slice of ints. -/
import Derived.Test.YtlnnoeicboamgaaDoorShat
namespace Go.Proofs.YtlnnoeicboamgaaDoor
open Go.RowKit



end Go.Proofs.YtlnnoeicboamgaaDoor
