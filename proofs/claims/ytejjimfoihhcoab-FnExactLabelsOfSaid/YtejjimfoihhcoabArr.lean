/- The program's arrays of 32 marks: traceMarks, partMarks, list. Conditions: sets of at most 5 points. -/
import Derived.Test.YtejjimfoihhcoabApp
import Derived.Test.YtejjimfoihhcoabVal
namespace Go.Proofs.Ytejjimfoihhcoab
open Go.RowKit



end Go.Proofs.Ytejjimfoihhcoab
