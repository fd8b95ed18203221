/- EdgesOf, the program's. Conditions: Sets is a slice of ints. -/
import Derived.Test.YtpkilacappjkhaaNods
namespace Go.Proofs.Ytpkilacappjkhaa
open Go.RowKit

theorem implEdgesOf (n : Int) (v : Value) (zs : List Int) (w : World) (h : Rd w v zs) : Calls Try.prog 9 #[.agg #[.int .i64 n, v]] w (RetPr (egL n zs) w) :=
  implEdgesBy n v zs w h (fun m ns v w hc h => implNodesOf m ns v w hc h)

end Go.Proofs.Ytpkilacappjkhaa
