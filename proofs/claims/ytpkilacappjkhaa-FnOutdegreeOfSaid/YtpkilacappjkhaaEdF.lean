/- Edges: between sets of two kinds, and how many. No program. -/
import Derived.Test.YtpkilacappjkhaaEdC
namespace Go.Proofs.Ytpkilacappjkhaa
open Go.RowKit

theorem adj_odd : ∀ s t : Fin 32, adj s.1 t.1 = true → (pc s.1 + pc t.1) % 2 = 1 := by decide +kernel
/-- an edge is between two sets of the class, of which the first is the smaller one -/
theorem eg_mem {m : Nat} {ns : List Nat} (hc : Cls m ns) {e : Int × Int} (h : e ∈ egTo ns ns.length) : ∃ a b : Nat, e = ((a : Int), (b : Int)) ∧ a ∈ ns ∧ b ∈ ns ∧ a < b ∧ (pc a + pc b) % 2 = 1 := by
  rw [egTo, List.mem_flatMap] at h
  obtain ⟨i, hi, h⟩ := h
  rw [List.mem_range] at hi
  rw [egIn, List.mem_map] at h
  obtain ⟨j, hj, rfl⟩ := h
  rw [List.mem_filter, List.mem_range, Bool.and_eq_true, decide_eq_true_eq] at hj
  have ha : ns.getD i 0 ∈ ns := getD_of_lt hi
  have hb : ns.getD j 0 ∈ ns := getD_of_lt hj.1
  refine ⟨_, _, rfl, ha, hb, ?_, adj_odd ⟨_, hc.lt32 _ ha⟩ ⟨_, hc.lt32 _ hb⟩ hj.2.2⟩
  have h1 := List.pairwise_iff_getElem.1 hc.asc i j hi hj.1 hj.2.1
  rw [List.getD_eq_getElem?_getD, List.getD_eq_getElem?_getD, List.getElem?_eq_getElem hi, List.getElem?_eq_getElem hj.1]
  exact h1
theorem eg_few {m : Nat} {ns : List Nat} (hc : Cls m ns) : (egTo ns ns.length).length ≤ (vcL m ns).toNat * ns.length := by
  rw [eg_count hc, ← hc.cnt]
  exact eF_le hc.pts (inF ns) _ (fun s hs hh => by
    have := shF_small hc s hs hh
    have h2 := of_decide_eq_true this
    omega)

end Go.Proofs.Ytpkilacappjkhaa
