/- BallClass, the program's. No conditions. -/
import Derived.Test.YtnoppclajhfnjabDoorNear
import Derived.Test.YtnoppclajhfnjabDoorSetsWB
import Derived.Test.YtnoppclajhfnjabDoorZA
import Derived.Test.YtnoppclajhfnjabDoorZD
namespace Go.Proofs.YtnoppclajhfnjabDoor
open Go.RowKit

/-- what a call answers whose results are a class of its own and a bool -/
def RetCB (n : Int) (xs : List Int) (b : Bool) (w : World) (e : Ending) (w' : World) : Prop :=
  ∃ a cap, e = .returned (.tuple #[.agg #[.int .i64 n, .slice a xs.length cap], .bool b]) ∧ Ints w.heap.size w' (.slice a xs.length cap) xs ∧ Below w.heap.size w w'
theorem Rd.nil (w : World) : Rd w (.slice none 0 0) [] := ⟨none, 0, 0, 0, rfl, fun h => by simp at h, by simp, fun j hj => by simp at hj⟩

/-- the ball of at most k points round s -/
def ball (m s : Nat) (k : Int) : List Nat := (List.range (2 ^ m)).filter (fun t => decide (dis s t ≤ k))
/-- BallClass -/
def blN (n s : Int) : Int := if inB n [] s = true then n else 0
def blL (n s k : Int) : List Int := if inB n [] s = true then toI (ball n.toNat s.toNat k) else []
theorem blN_no {n s : Int} (h : inB n [] s = false) : blN n s = 0 := by rw [blN, if_neg (by rw [h]; simp)]
theorem blL_no {n s k : Int} (h : inB n [] s = false) : blL n s k = [] := by rw [blL, if_neg (by rw [h]; simp)]
theorem blL_len (n s k : Int) : (blL n s k).length ≤ 1048576 := by
  unfold blL
  split
  · rename_i h
    simp only [inB, Bool.and_eq_true] at h
    obtain ⟨m, ns, rfl, _, hc⟩ := vldB_cls h.1
    rw [toI_length, ball, Int.toNat_natCast]
    have := filt_le (fun t => decide (dis s.toNat t ≤ k)) (2 ^ m)
    have := pow_le_32 hc.pts
    omega
  · simp



end Go.Proofs.YtnoppclajhfnjabDoor
