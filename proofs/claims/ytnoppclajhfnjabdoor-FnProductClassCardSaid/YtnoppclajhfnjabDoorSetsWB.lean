/- setsWhere with the test of BallClass$1. Conditions: at most five points. -/
import Derived.Test.YtnoppclajhfnjabDoorShat
import Derived.Test.YtnoppclajhfnjabDoorZW
namespace Go.Proofs.YtnoppclajhfnjabDoor
open Go.RowKit Go.Shelf


end Go.Proofs.YtnoppclajhfnjabDoor
