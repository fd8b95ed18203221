/- A valid class, in Go's numbers and in plain ones; what the functions on traces answer. No program. -/
import Derived.Test.YtlkodggaebnkfaaDoorMath
import Derived.Test.YtlkodggaebnkfaaDoorVal
namespace Go.Proofs.YtlkodggaebnkfaaDoor

/-- a valid class has at most five points, and its sets are ascending -/
theorem vldB_cls {n : Int} {zs : List Int} (h : vldB n zs = true) : ∃ (m : Nat) (ns : List Nat), n = m ∧ zs = toI ns ∧ Cls m ns := by
  simp only [vldB, decide_eq_true_eq] at h
  obtain ⟨h0, h5, hok⟩ := h
  obtain ⟨m, rfl⟩ := Int.eq_ofNat_of_zero_le h0
  rw [Int.toNat_natCast] at hok
  have hz : zs = toI (zs.map Int.toNat) := by
    apply List.ext_getElem (by simp [toI])
    intro j h1 h2
    have := (hok j h1).1
    simp only [List.getD_eq_getElem?_getD, List.getElem?_eq_getElem h1, Option.getD_some] at this
    simp [toI, Int.toNat_of_nonneg this]
  refine ⟨m, zs.map Int.toNat, rfl, hz, by omega, ?_, ?_⟩
  · rw [List.pairwise_iff_getElem]
    intro i j hi hj hij
    simp only [List.length_map] at hi hj
    have key : ∀ d, i + d + 1 < zs.length → zs.getD i 0 < zs.getD (i + d + 1) 0 := by
      intro d
      induction d with
      | zero => intro hd; exact (hok (i + 1) hd).2.2 (by omega)
      | succ d ih =>
        intro hd
        have h1 := ih (by omega)
        have h2 := (hok (i + (d + 1) + 1) hd).2.2 (by omega)
        rw [show i + (d + 1) + 1 - 1 = i + d + 1 by omega] at h2
        omega
    have h1 := key (j - i - 1) (by omega)
    rw [show i + (j - i - 1) + 1 = j by omega] at h1
    have h2 := (hok i hi).1
    have h3 := (hok j hj).1
    simp only [List.getD_eq_getElem?_getD, List.getElem?_eq_getElem hi, List.getElem?_eq_getElem hj, Option.getD_some] at h1 h2 h3
    simp only [List.getElem_map]
    omega
  · intro t ht
    obtain ⟨z, hz', rfl⟩ := List.mem_map.1 ht
    obtain ⟨j, hj, rfl⟩ := List.getElem_of_mem hz'
    have := hok j hj
    simp only [List.getD_eq_getElem?_getD, List.getElem?_eq_getElem hj, Option.getD_some] at this
    have h2 : ((2 ^ m : Nat) : Int) = (2 : Int) ^ m := by simp
    omega

theorem toNat_toI (ns : List Nat) : (toI ns).map Int.toNat = ns := by
  simp [toI, List.map_map, Function.comp_def]

/-- is s a set of n points? -/
def setB (n : Nat) (s : Int) : Bool := decide (0 ≤ s) && decide (s < 2 ^ n)
theorem setB_nat {n : Nat} {s : Int} (hn : n ≤ 5) (h : setB n s = true) : ∃ m : Nat, s = m ∧ m < 2 ^ n ∧ m < 32 := by
  simp only [setB, Bool.and_eq_true, decide_eq_true_eq] at h
  obtain ⟨m, rfl⟩ := Int.eq_ofNat_of_zero_le h.1
  have h2 : ((2 ^ n : Nat) : Int) = (2 : Int) ^ n := by simp
  have := pow_le_32 hn
  exact ⟨m, rfl, by omega, by omega⟩

/-- what TraceOf answers -/
def traceB (n : Int) (zs : List Int) (s : Int) : List Int :=
  if vldB n zs = true ∧ setB n.toNat s = true then toI (tr (zs.map Int.toNat) s.toNat) else []
theorem traceB_bad {n : Int} {zs : List Int} {s : Int} (h : vldB n zs = false) : traceB n zs s = [] := by simp [traceB, h]
theorem traceB_out {n : Nat} {zs : List Int} {s : Int} (h : setB n s = false) : traceB n zs s = [] := by simp [traceB, h]
theorem traceB_in {n : Nat} {ns : List Nat} {s : Nat} (h : vldB n (toI ns) = true) (hs : setB n s = true) : traceB n (toI ns) s = toI (tr ns s) := by
  simp [traceB, h, hs, toNat_toI]
theorem traceB_len (n : Int) (zs : List Int) (s : Int) : (traceB n zs s).length ≤ 1048576 := by
  unfold traceB
  split
  · rw [toI_length]; exact Nat.le_trans (flt_length _) (by omega)
  · simp
/-- is a set shattered? -/
def sht (ns : List Nat) (s : Nat) : Bool := decide ((tr ns s).length = 2 ^ pc s)
def shatB (n : Int) (zs : List Int) (s : Int) : Bool := vldB n zs && setB n.toNat s && sht (zs.map Int.toNat) s.toNat
theorem shatB_bad {n : Int} {zs : List Int} {s : Int} (h : vldB n zs = false) : shatB n zs s = false := by simp [shatB, h]
theorem shatB_out {n : Nat} {zs : List Int} {s : Int} (h : setB n s = false) : shatB n zs s = false := by simp [shatB, h]
theorem shatB_in {n : Nat} {ns : List Nat} {s : Nat} (h : vldB n (toI ns) = true) (hs : setB n s = true) : shatB n (toI ns) s = sht ns s := by
  simp [shatB, h, hs, toNat_toI]
theorem pc_le5 (s : Nat) : pc s ≤ 5 := by
  unfold pc
  omega

end Go.Proofs.YtlkodggaebnkfaaDoor
