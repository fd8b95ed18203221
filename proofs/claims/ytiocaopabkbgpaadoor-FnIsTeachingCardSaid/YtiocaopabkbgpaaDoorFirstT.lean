/- FirstTeaching and TeachingNumber, the program's. Conditions: Sets is a slice of ints; the table setsWith is laid. -/
import Derived.Test.YtiocaopabkbgpaaDoorLeast
import Derived.Test.YtiocaopabkbgpaaDoorZC
namespace Go.Proofs.YtiocaopabkbgpaaDoor
open Go.RowKit Go.Shelf

/-- the first of the smallest sets of points that teach t; 0 for none -/
def fstNt (t : Nat) (l : List Nat) : Nat := (lmn (fun s => (pc s : Int)) (tcs t l)).1.getD 0 0
theorem fstN_none {t : Nat} {l : List Nat} (h : tcs t l = []) : fstNt t l = 0 := by rw [fstNt, h, lmn_nil]; rfl
theorem fstN_lt (t : Nat) (l : List Nat) : fstNt t l < 32 := by
  by_cases h : (lmn (fun s => (pc s : Int)) (tcs t l)).1 = []
  · rw [fstNt, h]; decide
  · have hl := List.length_pos_iff.2 h
    have := lmn_sub (getD_of_lt hl)
    rw [tcs, mem_flt] at this
    exact this.1


/-- how many points it takes to teach t; -1 for none -/
def tnI (t : Nat) (l : List Nat) : Int := if tcs t l = [] then -1 else (pc (fstNt t l) : Int)


/-- whether t is one of the sets of a valid class; the fewest points that teach it -/
def ftK (n : Int) (zs : List Int) (t : Int) : Bool := vldB n zs && hasB zs t
def ftB (n : Int) (zs : List Int) (t : Int) : Int := if ftK n zs t = true then ((ftN n.toNat t.toNat (zs.map Int.toNat) : Nat) : Int) else 0
def tnB (n : Int) (zs : List Int) (t : Int) : Int := if ftK n zs t = true then (pc (ftN n.toNat t.toNat (zs.map Int.toNat)) : Int) else -1
theorem ftK_out {n : Int} {zs : List Int} {t : Int} (h : inB n zs t = false) : ftK n zs t = false := by
  by_cases hv : vldB n zs = true
  · obtain ⟨m, ns, rfl, rfl, hc⟩ := vldB_cls hv
    have ht : setB m t = false := by rw [inB, hv] at h; exact h
    rw [ftK, hv, Bool.true_and]
    simp only [hasB, decide_eq_false_iff_not]
    intro hm
    obtain ⟨u, hu, rfl⟩ := List.mem_map.1 hm
    have h2 := hc.lt u hu
    have h3 : ((2 ^ m : Nat) : Int) = (2 : Int) ^ m := by simp
    simp only [setB, Bool.and_eq_false_iff, decide_eq_false_iff_not] at ht
    omega
  · rw [Bool.not_eq_true] at hv
    rw [ftK, hv]
    rfl
theorem ft_vals {m : Nat} {ns : List Nat} (hc : Cls m ns) (hv : vldB m (toI ns) = true) (u : Nat) : ftK (m : Int) (toI ns) (u : Int) = decide (tcs u ns ≠ []) ∧ ftB (m : Int) (toI ns) (u : Int) = (fstNt u ns : Nat) ∧ tnB (m : Int) (toI ns) (u : Int) = tnI u ns := by
  have hk : ftK (m : Int) (toI ns) (u : Int) = decide (u ∈ ns) := by rw [ftK, hv, Bool.true_and, hasB_nat]
  by_cases h : u ∈ ns
  · obtain ⟨h1, h2, _⟩ := ft_eq hc h
    have h1' : fstNt u ns = ftN m u ns := h1
    rw [ftB, tnB, tnI, hk, if_pos (decide_eq_true h), if_pos (decide_eq_true h), if_neg h2, Int.toNat_natCast, Int.toNat_natCast, toNat_toI, h1']
    exact ⟨by simp [h, h2], rfl, rfl⟩
  · have h2 := tcs_none h
    rw [ftB, tnB, tnI, hk, if_neg (by simp [h]), if_neg (by simp [h]), if_pos h2, fstN_none h2]
    exact ⟨by simp [h, h2], rfl, rfl⟩



end Go.Proofs.YtiocaopabkbgpaaDoor
