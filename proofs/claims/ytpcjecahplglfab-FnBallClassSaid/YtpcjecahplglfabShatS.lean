/- spec.ShatteredSets: the sets for which a test holds, ascending. Conditions: Sets is a slice of ints. -/
import Derived.Test.YtpcjecahplglfabShat
namespace Go.Proofs.Ytpcjecahplglfab
open Go.RowKit



end Go.Proofs.Ytpcjecahplglfab
