/- spec.ShatteredSets: the sets for which a test holds, ascending. Conditions: Sets is a slice of ints. -/
import Derived.Test.YtnoppclajhfnjabDoorShat
namespace Go.Proofs.YtnoppclajhfnjabDoor
open Go.RowKit



end Go.Proofs.YtnoppclajhfnjabDoor
