/- The program's arrays of 32 marks: traceMarks, partMarks, list. Conditions: sets of at most 5 points. -/
import Derived.Test.YtlkodggaebnkfaaDoorApp
import Derived.Test.YtlkodggaebnkfaaDoorVal
namespace Go.Proofs.YtlkodggaebnkfaaDoor
open Go.RowKit



end Go.Proofs.YtlkodggaebnkfaaDoor
