/- The program's arrays of 32 marks: traceMarks, partMarks, list. Conditions: sets of at most 5 points. -/
import Derived.Test.YtejjimfoihhcoaaDoorApp
import Derived.Test.YtejjimfoihhcoaaDoorVal
namespace Go.Proofs.YtejjimfoihhcoaaDoor
open Go.RowKit



end Go.Proofs.YtejjimfoihhcoaaDoor
