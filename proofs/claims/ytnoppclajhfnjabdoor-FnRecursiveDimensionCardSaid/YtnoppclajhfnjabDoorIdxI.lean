/- The model's indexInt. Conditions: the number is among those of a slice of ints. -/
import Derived.Test.YtnoppclajhfnjabDoorZA
namespace Go.Proofs.YtnoppclajhfnjabDoor
open Go.RowKit


end Go.Proofs.YtnoppclajhfnjabDoor
