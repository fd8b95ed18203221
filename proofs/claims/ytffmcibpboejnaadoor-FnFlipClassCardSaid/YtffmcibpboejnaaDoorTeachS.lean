/- IsTeaching, the model's. Conditions: Sets is a slice of ints. -/
import Derived.Deep.RegionHeld3
import Derived.Test.YtffmcibpboejnaaDoorTeachM
import Derived.Test.YtffmcibpboejnaaDoorZB
namespace Go.Proofs.YtffmcibpboejnaaDoor
open Go.RowKit


/-- how many of the first k have M at s -/
def cmt (M : Int) (s : Nat) (l : List Nat) (k : Nat) : Nat := ((l.take k).filter (fun u => decide (((u &&& s : Nat) : Int) = M))).length
theorem cmt_succ {M : Int} {s k : Nat} {l : List Nat} (hk : k < l.length) : cmt M s l (k + 1) = cmt M s l k + (if ((l.getD k 0 &&& s : Nat) : Int) = M then 1 else 0) := by
  unfold cmt
  rw [take_succ' hk, List.filter_append, List.length_append]
  congr 1
  generalize l.getD k 0 = x
  by_cases h : ((x &&& s : Nat) : Int) = M
  · rw [if_pos h]; simp [h]
  · rw [if_neg h]; simp [h]
theorem cmt_le (M : Int) (s : Nat) (l : List Nat) (k : Nat) : cmt M s l k ≤ k := by
  unfold cmt
  have := List.length_filter_le (fun u => decide (((u &&& s : Nat) : Int) = M)) (l.take k)
  rw [List.length_take] at this
  omega
/-- t is there, and alone agrees with itself at the points of s -/
def tcB (l : List Nat) (t : Int) (s : Nat) : Bool := hasB (toI l) t && tch t.toNat s l
theorem cmt_tcB {l : List Nat} {t : Int} {s : Nat} (hl : ∀ u ∈ l, u < 32) (hs : s < 32) : (decide (cmt (bits .and .i64 t s) s l l.length = 1) && hasB (toI l) t) = tcB l t s := by
  by_cases h : hasB (toI l) t = true
  · have hm : t ∈ toI l := by simpa [hasB] using h
    obtain ⟨u, hu, rfl⟩ := List.mem_map.1 hm
    have hu32 := hl u hu
    rw [tcB, h, Bool.and_true, Bool.true_and, tch_count, Int.toNat_natCast, i64_and u s (by omega) (by omega)]
    rw [show decide (u ∈ l) = true from decide_eq_true hu, Bool.and_true]
    congr 2
    unfold cmt agr
    rw [List.take_length]
    congr 2
    funext v
    rw [Bool.eq_iff_iff]
    simp only [decide_eq_true_eq, beq_iff_eq]
    omega
  · rw [Bool.not_eq_true] at h
    rw [tcB, h, Bool.and_false, Bool.false_and]


/-- IsTeaching's answer -/
def iteB (n : Int) (zs : List Int) (t s : Int) : Bool := vldB n zs && (setB n.toNat s && tcB (zs.map Int.toNat) t s.toNat)
theorem iteB_bad {n : Int} {zs : List Int} {t s : Int} (h : vldB n zs = false) : iteB n zs t s = false := by rw [iteB, h]; rfl


end Go.Proofs.YtffmcibpboejnaaDoor
