/- spec.ShatteredSets: the sets for which a test holds, ascending. Conditions: Sets is a slice of ints. -/
import Derived.Test.YtpkilacappjkhaaShat
namespace Go.Proofs.Ytpkilacappjkhaa
open Go.RowKit



end Go.Proofs.Ytpkilacappjkhaa
