/- Sets that agree with one at some points, and those that teach: mathematics. No conditions. -/
import Derived.Test.YtnoppclajhfnjaaDoorZU
namespace Go.Proofs.YtnoppclajhfnjaaDoor
open Go.RowKit

/-- those that have just the points of s that t has -/
def agr (t s : Nat) (l : List Nat) : List Nat := l.filter (fun u => u &&& s == t &&& s)
/-- the points of a set -/
def ptl (s : Nat) : List Nat := (List.range 5).filter (fun x => hasX x s)
/-- what is left behind the examples that t gives at the points xs -/
def lft (t : Nat) (xs : List Nat) (l : List Nat) : List Nat := xs.foldl (fun (l : List Nat) (x : Nat) => kp l ((x : Int), hasX x t)) l
theorem lft_nil (t : Nat) (l : List Nat) : lft t [] l = l := rfl
theorem lft_snoc (t : Nat) (xs : List Nat) (x : Nat) (l : List Nat) : lft t (xs ++ [x]) l = kp (lft t xs l) ((x : Int), hasX x t) := by simp [lft]
theorem lft_filter (t : Nat) (xs : List Nat) (l : List Nat) : lft t xs l = l.filter (fun u => xs.all (fun x => hasX x u == hasX x t)) := by
  induction xs generalizing l with
  | nil => rw [lft_nil]; exact (List.filter_eq_self.2 (fun _ _ => rfl)).symm
  | cons x xs ih =>
    show lft t xs (kp l ((x : Int), hasX x t)) = _
    rw [ih, kp, List.filter_filter]
    congr 1
    funext u
    simp only [List.all_cons, Int.toNat_natCast]
    exact Bool.and_comm _ _
theorem agr_all {t s : Nat} (ht : t < 32) (hs : s < 32) {l : List Nat} (hl : ∀ u ∈ l, u < 32) : lft t (ptl s) l = agr t s l := by
  rw [lft_filter, agr]
  refine List.filter_congr (fun u hu => ?_)
  have key : ∀ x : Fin 32, ∀ s : Fin 32, (ptl (s : Nat)).all (fun i => hasX i (x : Nat) == hasX i 0) = ((x : Nat) &&& (s : Nat) == 0) := by decide +kernel
  have key2 : ∀ i : Fin 5, ∀ u t : Fin 32, (hasX (i : Nat) (u : Nat) == hasX i (t : Nat)) = (hasX i ((u : Nat) ^^^ (t : Nat)) == hasX i 0) := by decide +kernel
  have hx : u ^^^ t < 32 := Nat.xor_lt_two_pow (n := 5) (hl u hu) ht
  have h1 := key ⟨u ^^^ t, hx⟩ ⟨s, hs⟩
  have h2 : (ptl s).all (fun x => hasX x u == hasX x t) = (ptl s).all (fun i => hasX i (u ^^^ t) == hasX i 0) := by
    rw [Bool.eq_iff_iff]
    simp only [List.all_eq_true]
    constructor
    · intro h i hi
      have h5 : i < 5 := List.mem_range.1 (List.mem_filter.1 hi).1
      exact (key2 ⟨i, h5⟩ ⟨u, hl u hu⟩ ⟨t, ht⟩) ▸ h i hi
    · intro h i hi
      have h5 : i < 5 := List.mem_range.1 (List.mem_filter.1 hi).1
      exact (key2 ⟨i, h5⟩ ⟨u, hl u hu⟩ ⟨t, ht⟩).symm ▸ h i hi
  rw [h2, h1, Bool.eq_iff_iff]
  simp only [beq_iff_eq]
  rw [Nat.and_xor_distrib_right]
  constructor
  · intro h
    have h9 := congrArg (· ^^^ (t &&& s)) h
    simpa [Nat.xor_assoc] using h9
  · intro h
    rw [h]; exact Nat.xor_self _

/-- t alone agrees with itself at the points of s -/
def tch (t s : Nat) (l : List Nat) : Bool := agr t s l == [t]
theorem agr_sub {t s u : Nat} {l : List Nat} (h : u ∈ agr t s l) : u ∈ l := (List.mem_filter.1 h).1
theorem mem_agr {t s : Nat} {l : List Nat} (h : t ∈ l) : t ∈ agr t s l := List.mem_filter.2 ⟨h, by simp⟩
theorem fm_inj {l : List Nat} {t : Nat} (hl : ∀ u ∈ l, u < 32) (hp : l.Pairwise (· < ·)) (ht : t < 32) : fm l = (2 : Int) ^ t ↔ l = [t] := by
  constructor
  · intro h
    have e : famB l = famB [t] := by
      apply BitVec.eq_of_toNat_eq
      have h2 : fm [t] = (2 : Int) ^ t := by
        have key : ∀ t : Fin 32, fm [(t : Nat)] = (2 : Int) ^ (t : Nat) := by decide +kernel
        exact key ⟨t, ht⟩
      have h3 : fm l = fm [t] := h.trans h2.symm
      unfold fm at h3
      omega
    refine asc_ext hp (List.pairwise_singleton _ _) (fun x => ?_)
    by_cases hx : x < 32
    · have h1 := famB_bit l hx
      have h2 := famB_bit [t] hx
      rw [e, h2] at h1
      simpa using h1.symm
    · constructor
      · intro h; exact absurd (hl x h) hx
      · intro h; simp only [List.mem_singleton] at h; omega
  · rintro rfl
    have key : ∀ t : Fin 32, fm [(t : Nat)] = (2 : Int) ^ (t : Nat) := by decide +kernel
    exact key ⟨t, ht⟩
theorem tch_count {t s : Nat} {l : List Nat} : tch t s l = (decide ((agr t s l).length = 1) && decide (t ∈ l)) := by
  rw [Bool.eq_iff_iff]
  simp only [tch, beq_iff_eq, Bool.and_eq_true, decide_eq_true_eq]
  constructor
  · intro h
    exact ⟨by rw [h]; rfl, agr_sub (t := t) (s := s) (by rw [h]; simp)⟩
  · rintro ⟨h, ht⟩
    obtain ⟨a, ha⟩ := List.length_eq_one_iff.1 h
    have := mem_agr (s := s) ht
    rw [ha] at this ⊢
    simp only [List.mem_singleton] at this
    rw [this]
/-- those that have been counted -/
def agrTo (t s : Nat) (l : List Nat) (k : Nat) : Nat := (agr t s (l.take k)).length
theorem agrTo_succ {t s k : Nat} {l : List Nat} (hk : k < l.length) : agrTo t s l (k + 1) = agrTo t s l k + (if l.getD k 0 &&& s = t &&& s then 1 else 0) := by
  unfold agrTo agr
  rw [take_succ' hk, List.filter_append, List.length_append]
  congr 1
  generalize l.getD k 0 = x
  by_cases h : x &&& s = t &&& s
  · rw [if_pos h]; simp [h]
  · rw [if_neg h]; simp [h]
theorem agrTo_all (t s : Nat) (l : List Nat) : agrTo t s l l.length = (agr t s l).length := by rw [agrTo, List.take_length]
theorem agrTo_le (t s : Nat) (l : List Nat) (k : Nat) : agrTo t s l k ≤ k := by
  unfold agrTo agr
  have := List.length_filter_le (fun u => u &&& s == t &&& s) (l.take k)
  rw [List.length_take] at this
  omega

end Go.Proofs.YtnoppclajhfnjaaDoor
