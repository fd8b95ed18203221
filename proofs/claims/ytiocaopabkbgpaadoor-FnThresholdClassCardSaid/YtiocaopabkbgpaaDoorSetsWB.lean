/- setsWhere with the test of BallClass$1. Conditions: at most five points. -/
import Derived.Test.YtiocaopabkbgpaaDoorCsk
import Derived.Test.YtiocaopabkbgpaaDoorShat
namespace Go.Proofs.YtiocaopabkbgpaaDoor
open Go.RowKit Go.Shelf


end Go.Proofs.YtiocaopabkbgpaaDoor
