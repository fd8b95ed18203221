/- The model's indexInt. Conditions: the number is among those of a slice of ints. -/
import Derived.Test.YtnoppclajhfnjaaDoorZA
namespace Go.Proofs.YtnoppclajhfnjaaDoor
open Go.RowKit


end Go.Proofs.YtnoppclajhfnjaaDoor
