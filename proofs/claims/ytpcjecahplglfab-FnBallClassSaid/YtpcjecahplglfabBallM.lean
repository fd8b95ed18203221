/- What the law of BallClass asks of the balls that it draws. No conditions. -/
import Derived.Test.YtpcjecahplglfabBall
import Derived.Test.YtpcjecahplglfabDrawsBl
import Derived.Test.YtpcjecahplglfabNear
import Derived.Test.YtpcjecahplglfabZG
namespace Go.Proofs.Ytpcjecahplglfab
open Go.RowKit

/-- what is asked of a ball that is drawn -/
def ballOK (n s k : Int) : Bool :=
  !(inB n [] s) || decide (k < 0) || (decide (0 < (ball n.toNat s.toNat k).length) && decide (((ball n.toNat s.toNat k).length : Int) = sauerB n k) && decide (sauerB n (vcL n.toNat (ball n.toNat s.toNat k)) = sauerB n k) && decide (cvTo (ball n.toNat s.toNat k) (2 ^ n.toNat) = max (n - k) 0))
theorem ball_all : ∀ i : Fin 8, ∀ j : Fin 7, ∀ k : Fin 7, ballOK (ballNs.getD i 0) (ballSs.getD j 0) (ballKs.getD k 0) = true := by decide +kernel
theorem ball_bd : ∀ i : Fin 8, ∀ k : Fin 7, -1 ≤ ballNs.getD i 0 ∧ ballNs.getD i 0 ≤ 6 ∧ -1 ≤ ballKs.getD k 0 ∧ ballKs.getD k 0 ≤ 4611686018427387904 := by decide +kernel
theorem ball_cls {m : Nat} (hm : m ≤ 5) (s : Nat) (k : Int) : Cls m (ball m s k) := ⟨hm, (range_asc _).filter _, fun _ ht => List.mem_range.1 (List.mem_filter.1 ht).1⟩
theorem ball_neg {m s : Nat} {k : Int} (hk : k < 0) : ball m s k = [] := by
  unfold ball
  refine List.filter_eq_nil_iff.2 (fun t _ => ?_)
  have := dis_nat s t
  simp
  omega
theorem ball_good {m : Nat} {s k : Int} (hm : m ≤ 5) (hs : inB (m : Int) [] s = true) (hk : ¬ k < 0) (h : ballOK (m : Int) s k = true) :
    maxB (m : Int) (toI (ball m s.toNat k)) = true ∧ ((toI (ball m s.toNat k)).length : Int) = sauerB m k ∧ cvB (m : Int) (toI (ball m s.toNat k)) = max ((m : Int) - k) 0 := by
  have hc := ball_cls hm s.toNat k
  have hv := cls_vldB hc
  rw [ballOK, hs, decide_eq_false hk] at h
  simp only [Bool.not_true, Bool.false_or, Bool.and_eq_true, decide_eq_true_eq, Int.toNat_natCast] at h
  obtain ⟨⟨⟨h0, h1⟩, h2⟩, h3⟩ := h
  refine ⟨?_, ?_, ?_⟩
  · rw [maxB_in hv, vcB_in hv, toI_length, h1, h2]
    exact decide_eq_true rfl
  · rw [toI_length]; exact h1
  · rw [cvB_in hv (fun e => by rw [e] at h0; simp at h0)]; exact h3

end Go.Proofs.Ytpcjecahplglfab
