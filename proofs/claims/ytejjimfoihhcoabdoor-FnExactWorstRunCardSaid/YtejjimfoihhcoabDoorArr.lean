/- The program's arrays of 32 marks: traceMarks, partMarks, list. Conditions: sets of at most 5 points. -/
import Derived.Test.YtejjimfoihhcoabDoorApp
import Derived.Test.YtejjimfoihhcoabDoorVal
namespace Go.Proofs.YtejjimfoihhcoabDoor
open Go.RowKit



end Go.Proofs.YtejjimfoihhcoabDoor
