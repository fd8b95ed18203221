/- spec.ShatteredSets: the sets for which a test holds, ascending. Conditions: Sets is a slice of ints. -/
import Derived.Test.YthmipnflbiclbaaDoorShat
namespace Go.Proofs.YthmipnflbiclbaaDoor
open Go.RowKit



end Go.Proofs.YthmipnflbiclbaaDoor
