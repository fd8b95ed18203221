/- ConsistentOf, the program's. Conditions: Sets is a slice of ints, the list one of examples; the table setsWith is laid. -/
import Derived.Test.YtffmcibpboejnaaDoorFamCls
import Derived.Test.YtffmcibpboejnaaDoorRun
namespace Go.Proofs.YtffmcibpboejnaaDoor
open Go.RowKit

def conN (n : Int) (zs : List Int) (es : List (Int × Bool)) : Int := if vsB n zs es = true then n else 0
def conL (n : Int) (zs : List Int) (es : List (Int × Bool)) : List Int := if vsB n zs es = true then toI (nowTo (zs.map Int.toNat) es es.length) else []
theorem conL_len (n : Int) (zs : List Int) (es : List (Int × Bool)) : (conL n zs es).length ≤ 1048576 := by
  unfold conL
  split
  · rename_i hv
    have hvd : vldB n zs = true := by simp only [vsB, Bool.and_eq_true] at hv; exact hv.1
    obtain ⟨m, ns, rfl, rfl, hc⟩ := vldB_cls hvd
    rw [toI_length, toNat_toI]
    have := (nowTo_sub ns es es.length).2
    have := hc.length
    omega
  · simp
theorem nowTo_asc {ns : List Nat} (h : ns.Pairwise (· < ·)) (es : List (Int × Bool)) (k : Nat) : (nowTo ns es k).Pairwise (· < ·) := by
  induction k with
  | zero => exact h
  | succ k ih => exact ih.filter _
theorem range_mem {n : Nat} {l : List Nat} (ha : l.Pairwise (· < ·)) (hl : ∀ t ∈ l, t < n) : (List.range n).filter (fun s => decide (s ∈ l)) = l := by
  have h1 : ((List.range n).filter (fun s => decide (s ∈ l))).Pairwise (· < ·) := List.Pairwise.filter _ List.pairwise_lt_range
  have hp : List.Perm ((List.range n).filter (fun s => decide (s ∈ l))) l := by
    apply (List.perm_ext_iff_of_nodup (List.nodup_range.filter _) (ha.imp (fun h => Nat.ne_of_lt h))).2
    intro s
    rw [List.mem_filter, List.mem_range, decide_eq_true_eq]
    exact ⟨fun h => h.2, fun h => ⟨hl s h, h⟩⟩
  exact hp.eq_of_pairwise (fun a b _ _ h1 h2 => by omega) h1 ha


end Go.Proofs.YtffmcibpboejnaaDoor
