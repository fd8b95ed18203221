/- The model's indexInt. Conditions: the number is among those of a slice of ints. -/
import Derived.Test.YthmipnflbiclbaaDoorZA
namespace Go.Proofs.YthmipnflbiclbaaDoor
open Go.RowKit


end Go.Proofs.YthmipnflbiclbaaDoor
