/- MembershipDepth, the program's and the model's. Conditions: Sets is a slice of ints; the table setsWith is laid. -/
import Derived.Test.YthmipnflbiclbaaDoorMembS
namespace Go.Proofs.YthmipnflbiclbaaDoor
open Go.RowKit

def memB (n : Int) (zs : List Int) : Int := if vldB n zs = true then qst (zs.map Int.toNat) else -1



end Go.Proofs.YthmipnflbiclbaaDoor
