/- The model's cubeIn, strongly, IsStrong. Conditions: Sets is a slice of ints. -/
import Derived.Test.YtpkilacappjkhaaZD
import Derived.Test.YtpkilacappjkhaaZH
namespace Go.Proofs.Ytpkilacappjkhaa
open Go.RowKit

set_option maxRecDepth 100000 in
theorem add_or_fin : ∀ c a : Fin 32, (c : Nat) &&& (a : Nat) = 0 → (c : Nat) + a = c ||| a := by decide
theorem add_or {c a s : Nat} (hc : c < 32) (ha : a < 32) (h : c &&& s = 0) (h2 : a &&& s = a) : c + a = c ||| a := by
  refine add_or_fin ⟨c, hc⟩ ⟨a, ha⟩ ?_
  show c &&& a = 0
  rw [← h2, Nat.and_comm a s, ← Nat.and_assoc, h, Nat.zero_and]


def spTo (ns : List Nat) (s k : Nat) : Bool := (List.range k).any (crn ns s)
theorem spTo_no {ns : List Nat} {s k : Nat} (h : crn ns s k = false) : spTo ns s (k + 1) = spTo ns s k := by
  simp only [spTo, List.range_succ, List.any_append, List.any_cons, List.any_nil, Bool.or_false]
  rw [h, Bool.or_false]
theorem strg_yes {ns : List Nat} {s c : Nat} (h : crn ns s c = true) : strg ns s = true := strg_iff.2 ⟨c, crn_mem h, h⟩
theorem strg_no {m : Nat} {ns : List Nat} {s : Nat} (hc : Cls m ns) (h : spTo ns s (2 ^ m) = false) : strg ns s = false := by
  rw [← Bool.not_eq_true]
  intro hh
  obtain ⟨c, hm, hr⟩ := strg_iff.1 hh
  rw [← Bool.not_eq_true] at h
  apply h
  simp only [spTo, List.any_eq_true, List.mem_range]
  exact ⟨c, hc.lt c hm, hr⟩



end Go.Proofs.Ytpkilacappjkhaa
