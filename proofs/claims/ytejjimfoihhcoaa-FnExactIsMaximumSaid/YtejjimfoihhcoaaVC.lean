/- VCDimension, the program's and the model's. Conditions: Sets is a slice of ints. -/
import Derived.Test.YtejjimfoihhcoaaShatS
import Derived.Test.YtejjimfoihhcoaaOnes
namespace Go.Proofs.Ytejjimfoihhcoaa
open Go.RowKit

/-- the greatest size so far, -1 for none -/
def widTo (ns : List Nat) : Nat → Int
  | 0 => -1
  | k + 1 => max (widTo ns k) (pc (ns.getD k 0))
def widL (ns : List Nat) : Int := widTo ns ns.length
theorem widTo_bd (ns : List Nat) (k : Nat) : -1 ≤ widTo ns k ∧ widTo ns k ≤ 5 := by
  induction k with
  | zero => simp [widTo]
  | succ k ih =>
    have := pc_le5 (ns.getD k 0)
    simp only [widTo]
    omega
/-- the sets that are shattered -/
def shatN (n : Int) (zs : List Int) : List Nat := if vldB n zs = true then (List.range (2 ^ n.toNat)).filter (sht (zs.map Int.toNat)) else []
theorem shatL_N (n : Int) (zs : List Int) : shatL n zs = toI (shatN n zs) := by
  unfold shatL shatN
  split
  · rfl
  · rfl
theorem shatN_lt (n : Int) (zs : List Int) : ∀ t ∈ shatN n zs, t < 32 := by
  intro t ht
  unfold shatN at ht
  split at ht
  · rename_i h
    obtain ⟨m, ns, rfl, rfl, hc⟩ := vldB_cls h
    have := List.mem_range.1 (List.mem_filter.1 ht).1
    rw [Int.toNat_natCast] at this
    exact Nat.lt_of_lt_of_le this (pow_le_32 hc.pts)
  · simp at ht
theorem shatN_in {n : Nat} {ns : List Nat} (h : vldB n (toI ns) = true) : shatN n (toI ns) = (List.range (2 ^ n)).filter (sht ns) := by simp [shatN, h, toNat_toI]
def vcB (n : Int) (zs : List Int) : Int := widL (shatN n zs)
theorem vcB_bad {n : Int} {zs : List Int} (h : vldB n zs = false) : vcB n zs = -1 := by simp [vcB, shatN, h, widL, widTo]

set_option maxHeartbeats 800000 in
theorem specWidest (v : Value) (ns : List Nat) (w : World) (hm : ∀ m ∈ ns, m < 32) (h : Rd w v (toI ns)) :
    Calls Try.prog 38 #[v] w fun e w' => e = .returned (.int .i64 (widL ns)) ∧ w' = w := by
  obtain ⟨a, b, off, cap, rfl, h1, h3, h5⟩ := h
  rw [toI_length] at *
  have H5 := Lib.hid h5
  have H1 := Lib.hid h1
  clear h5 h1
  go_enter Try.func38, Try.ntmps38
  go_wp2_with fail
  go_loop [3, 4] (fun o i => ∃ k : Nat, k ≤ ns.length ∧ i = .int .i64 k ∧ o = .int .i64 (widTo ns k)) (fun _ i => ns.length - (intOf i).toNat)
  case atStart => exact ⟨0, Nat.zero_le _, rfl, rfl⟩
  case round =>
    obtain ⟨k, hk, rfl, rfl⟩ := hrel
    have HS := Lib.hid (show widTo ns (k + 1) = max (widTo ns k) (pc (ns.getD k 0)) from rfl)
    by_cases hlt : k < ns.length
    · obtain ⟨rfl, _⟩ := H1.out (by omega)
      have hc := H5.out k hlt
      rw [toI_getD] at hc
      have hx := hm _ (getD_of_lt hlt)
      generalize ns.getD k 0 = x at *
      generalize widTo ns k = o at *
      go_wp2_with fail
      refine (specSize x hx _).mono ?_
      rintro e w' ⟨rfl, rfl⟩
      generalize pc x = q at *
      by_cases hd : o < (q : Int)
      · have HM := Lib.hid (show max o (q : Int) = q by omega)
        go_wp2_with fail
        go_round
        case rel => exact ⟨k + 1, by omega, by go_num, by rw [HS.out, HM.out]⟩
        case measure => simp [intOf]; omega
      · have HM := Lib.hid (show max o (q : Int) = o by omega)
        go_wp2_with fail
        go_round
        case rel => exact ⟨k + 1, by omega, by go_num, by rw [HS.out, HM.out]⟩
        case measure => simp [intOf]; omega
    · go_wp2_with fail
      go_ret
      obtain rfl : k = ns.length := by omega
      exact ⟨rfl, rfl⟩


set_option maxHeartbeats 800000 in
theorem implVCDimension (n : Int) (v : Value) (zs : List Int) (w : World) (h : Rd w v zs) :
    Calls Try.prog 43 #[.agg #[.int .i64 n, v]] w fun e w' => e = .returned (.int .i64 (vcB n zs)) ∧ Below w.heap.size w w' := by
  have H := Lib.hid h
  obtain ⟨a, b, off, cap, rfl, _, _, _⟩ := h
  have HLT := Lib.hid (shatN_lt n zs)
  have HE := Lib.hid (shatL_N n zs)
  have HV := Lib.hid (show vcB n zs = widL (shatN n zs) from rfl)
  go_enter Try.func43, Try.ntmps43
  go_wp2_with fail
  refine (implShatteredSets n _ zs _ (H.out.below (k := w.heap.size) (by go_grown) (Nat.le_refl _))).mono ?_
  intro e w2 h2
  rw [HE.out] at h2
  obtain ⟨a2, c2, rfl, hin2, hb2⟩ := RetInts.after (w := w) (by go_grown) h2
  have HI2 := Lib.hid hin2.rd
  have HB2 := Lib.hid hb2
  clear hin2 hb2 h2 HE
  generalize shatN n zs = ns at *
  obtain ⟨a3, b3, off3, cap3, e3, h1, h3, h5⟩ := HI2.out
  rw [toI_length] at *
  simp only [Value.slice.injEq] at e3
  obtain ⟨rfl, _, rfl⟩ := e3
  have H5 := Lib.hid h5
  have H1 := Lib.hid h1
  clear h5 h1
  go_wp2_with fail
  go_loop [3, 9] (fun o i => ∃ k : Nat, k ≤ ns.length ∧ i = .int .i64 k ∧ o = .int .i64 (widTo ns k)) (fun _ i => ns.length - (intOf i).toNat)
  case atStart => exact ⟨0, Nat.zero_le _, rfl, rfl⟩
  case round =>
    obtain ⟨k, hk, rfl, rfl⟩ := hrel
    have HS := Lib.hid (show widTo ns (k + 1) = max (widTo ns k) (pc (ns.getD k 0)) from rfl)
    by_cases hlt : k < ns.length
    · obtain ⟨rfl, _⟩ := H1.out (by omega)
      have hc := H5.out k hlt
      rw [toI_getD] at hc
      have hx := HLT.out _ (getD_of_lt hlt)
      generalize ns.getD k 0 = x at *
      generalize widTo ns k = o at *
      go_wp2_with fail
      refine (implSizeOf x hx _).mono ?_
      rintro e w' ⟨rfl, rfl⟩
      generalize pc x = q at *
      by_cases hd : o < (q : Int)
      · have HM := Lib.hid (show max o (q : Int) = q by omega)
        go_wp2_with fail
        go_round
        case rel => exact ⟨k + 1, by omega, by go_num, by rw [HS.out, HM.out]⟩
        case measure => simp [intOf]; omega
      · have HM := Lib.hid (show max o (q : Int) = o by omega)
        go_wp2_with fail
        go_round
        case rel => exact ⟨k + 1, by omega, by go_num, by rw [HS.out, HM.out]⟩
        case measure => simp [intOf]; omega
    · go_wp2_with fail
      go_ret
      obtain rfl : k = ns.length := by omega
      exact ⟨ret_int HV.out.symm, HB2.out⟩

end Go.Proofs.Ytejjimfoihhcoaa
