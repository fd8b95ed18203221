/- The model's validSet, TraceOf, shatters, IsShattered. Conditions: Sets is a slice of ints. -/
import Derived.Test.YtejjimfoihhcoaaTrace
import Derived.Test.YtejjimfoihhcoaaCls
namespace Go.Proofs.Ytejjimfoihhcoaa
open Go.RowKit



end Go.Proofs.Ytejjimfoihhcoaa
