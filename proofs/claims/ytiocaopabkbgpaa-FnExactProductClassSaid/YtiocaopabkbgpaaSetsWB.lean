/- setsWhere with the test of BallClass$1. Conditions: at most five points. -/
import Derived.Test.YtiocaopabkbgpaaCsk
import Derived.Test.YtiocaopabkbgpaaShat
namespace Go.Proofs.Ytiocaopabkbgpaa
open Go.RowKit Go.Shelf


end Go.Proofs.Ytiocaopabkbgpaa
