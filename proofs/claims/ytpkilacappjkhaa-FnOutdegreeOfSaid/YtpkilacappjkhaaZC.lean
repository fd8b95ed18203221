/- sizeOf: how many points a set of at most five has. Conditions: the number is below 32. VCDimension, the program's and the model's. Conditions: Sets is a slice of ints. SauerBound, the program's and the model's, and the exact law on it. No conditions. -/
import Derived.Test.YtpkilacappjkhaaShatS
import Derived.Test.YtpkilacappjkhaaZA
namespace Go.Proofs.Ytpkilacappjkhaa
open Go.RowKit

theorem ones0 (w : World) : Calls Try.prog 46 #[.int .u64 0] w fun e w' => e = .returned (.int .i64 0) ∧ w = w' := by
  go_enter Try.func46, Try.ntmps46
  go_wp2
  go_ret
  exact ⟨by kernel_rfl, rfl⟩
theorem ones1 (w : World) : Calls Try.prog 46 #[.int .u64 1] w fun e w' => e = .returned (.int .i64 1) ∧ w = w' := by
  go_enter Try.func46, Try.ntmps46
  go_wp2
  go_ret
  exact ⟨by kernel_rfl, rfl⟩
theorem ones2 (w : World) : Calls Try.prog 46 #[.int .u64 2] w fun e w' => e = .returned (.int .i64 1) ∧ w = w' := by
  go_enter Try.func46, Try.ntmps46
  go_wp2
  go_ret
  exact ⟨by kernel_rfl, rfl⟩
theorem ones3 (w : World) : Calls Try.prog 46 #[.int .u64 3] w fun e w' => e = .returned (.int .i64 2) ∧ w = w' := by
  go_enter Try.func46, Try.ntmps46
  go_wp2
  go_ret
  exact ⟨by kernel_rfl, rfl⟩
theorem ones4 (w : World) : Calls Try.prog 46 #[.int .u64 4] w fun e w' => e = .returned (.int .i64 1) ∧ w = w' := by
  go_enter Try.func46, Try.ntmps46
  go_wp2
  go_ret
  exact ⟨by kernel_rfl, rfl⟩
theorem ones5 (w : World) : Calls Try.prog 46 #[.int .u64 5] w fun e w' => e = .returned (.int .i64 2) ∧ w = w' := by
  go_enter Try.func46, Try.ntmps46
  go_wp2
  go_ret
  exact ⟨by kernel_rfl, rfl⟩
theorem ones6 (w : World) : Calls Try.prog 46 #[.int .u64 6] w fun e w' => e = .returned (.int .i64 2) ∧ w = w' := by
  go_enter Try.func46, Try.ntmps46
  go_wp2
  go_ret
  exact ⟨by kernel_rfl, rfl⟩
theorem ones7 (w : World) : Calls Try.prog 46 #[.int .u64 7] w fun e w' => e = .returned (.int .i64 3) ∧ w = w' := by
  go_enter Try.func46, Try.ntmps46
  go_wp2
  go_ret
  exact ⟨by kernel_rfl, rfl⟩
theorem ones8 (w : World) : Calls Try.prog 46 #[.int .u64 8] w fun e w' => e = .returned (.int .i64 1) ∧ w = w' := by
  go_enter Try.func46, Try.ntmps46
  go_wp2
  go_ret
  exact ⟨by kernel_rfl, rfl⟩
theorem ones9 (w : World) : Calls Try.prog 46 #[.int .u64 9] w fun e w' => e = .returned (.int .i64 2) ∧ w = w' := by
  go_enter Try.func46, Try.ntmps46
  go_wp2
  go_ret
  exact ⟨by kernel_rfl, rfl⟩
theorem ones10 (w : World) : Calls Try.prog 46 #[.int .u64 10] w fun e w' => e = .returned (.int .i64 2) ∧ w = w' := by
  go_enter Try.func46, Try.ntmps46
  go_wp2
  go_ret
  exact ⟨by kernel_rfl, rfl⟩
theorem ones11 (w : World) : Calls Try.prog 46 #[.int .u64 11] w fun e w' => e = .returned (.int .i64 3) ∧ w = w' := by
  go_enter Try.func46, Try.ntmps46
  go_wp2
  go_ret
  exact ⟨by kernel_rfl, rfl⟩
theorem ones12 (w : World) : Calls Try.prog 46 #[.int .u64 12] w fun e w' => e = .returned (.int .i64 2) ∧ w = w' := by
  go_enter Try.func46, Try.ntmps46
  go_wp2
  go_ret
  exact ⟨by kernel_rfl, rfl⟩
theorem ones13 (w : World) : Calls Try.prog 46 #[.int .u64 13] w fun e w' => e = .returned (.int .i64 3) ∧ w = w' := by
  go_enter Try.func46, Try.ntmps46
  go_wp2
  go_ret
  exact ⟨by kernel_rfl, rfl⟩
theorem ones14 (w : World) : Calls Try.prog 46 #[.int .u64 14] w fun e w' => e = .returned (.int .i64 3) ∧ w = w' := by
  go_enter Try.func46, Try.ntmps46
  go_wp2
  go_ret
  exact ⟨by kernel_rfl, rfl⟩
theorem ones15 (w : World) : Calls Try.prog 46 #[.int .u64 15] w fun e w' => e = .returned (.int .i64 4) ∧ w = w' := by
  go_enter Try.func46, Try.ntmps46
  go_wp2
  go_ret
  exact ⟨by kernel_rfl, rfl⟩
theorem ones16 (w : World) : Calls Try.prog 46 #[.int .u64 16] w fun e w' => e = .returned (.int .i64 1) ∧ w = w' := by
  go_enter Try.func46, Try.ntmps46
  go_wp2
  go_ret
  exact ⟨by kernel_rfl, rfl⟩
theorem ones17 (w : World) : Calls Try.prog 46 #[.int .u64 17] w fun e w' => e = .returned (.int .i64 2) ∧ w = w' := by
  go_enter Try.func46, Try.ntmps46
  go_wp2
  go_ret
  exact ⟨by kernel_rfl, rfl⟩
theorem ones18 (w : World) : Calls Try.prog 46 #[.int .u64 18] w fun e w' => e = .returned (.int .i64 2) ∧ w = w' := by
  go_enter Try.func46, Try.ntmps46
  go_wp2
  go_ret
  exact ⟨by kernel_rfl, rfl⟩
theorem ones19 (w : World) : Calls Try.prog 46 #[.int .u64 19] w fun e w' => e = .returned (.int .i64 3) ∧ w = w' := by
  go_enter Try.func46, Try.ntmps46
  go_wp2
  go_ret
  exact ⟨by kernel_rfl, rfl⟩
theorem ones20 (w : World) : Calls Try.prog 46 #[.int .u64 20] w fun e w' => e = .returned (.int .i64 2) ∧ w = w' := by
  go_enter Try.func46, Try.ntmps46
  go_wp2
  go_ret
  exact ⟨by kernel_rfl, rfl⟩
theorem ones21 (w : World) : Calls Try.prog 46 #[.int .u64 21] w fun e w' => e = .returned (.int .i64 3) ∧ w = w' := by
  go_enter Try.func46, Try.ntmps46
  go_wp2
  go_ret
  exact ⟨by kernel_rfl, rfl⟩
theorem ones22 (w : World) : Calls Try.prog 46 #[.int .u64 22] w fun e w' => e = .returned (.int .i64 3) ∧ w = w' := by
  go_enter Try.func46, Try.ntmps46
  go_wp2
  go_ret
  exact ⟨by kernel_rfl, rfl⟩
theorem ones23 (w : World) : Calls Try.prog 46 #[.int .u64 23] w fun e w' => e = .returned (.int .i64 4) ∧ w = w' := by
  go_enter Try.func46, Try.ntmps46
  go_wp2
  go_ret
  exact ⟨by kernel_rfl, rfl⟩
theorem ones24 (w : World) : Calls Try.prog 46 #[.int .u64 24] w fun e w' => e = .returned (.int .i64 2) ∧ w = w' := by
  go_enter Try.func46, Try.ntmps46
  go_wp2
  go_ret
  exact ⟨by kernel_rfl, rfl⟩
theorem ones25 (w : World) : Calls Try.prog 46 #[.int .u64 25] w fun e w' => e = .returned (.int .i64 3) ∧ w = w' := by
  go_enter Try.func46, Try.ntmps46
  go_wp2
  go_ret
  exact ⟨by kernel_rfl, rfl⟩
theorem ones26 (w : World) : Calls Try.prog 46 #[.int .u64 26] w fun e w' => e = .returned (.int .i64 3) ∧ w = w' := by
  go_enter Try.func46, Try.ntmps46
  go_wp2
  go_ret
  exact ⟨by kernel_rfl, rfl⟩
theorem ones27 (w : World) : Calls Try.prog 46 #[.int .u64 27] w fun e w' => e = .returned (.int .i64 4) ∧ w = w' := by
  go_enter Try.func46, Try.ntmps46
  go_wp2
  go_ret
  exact ⟨by kernel_rfl, rfl⟩
theorem ones28 (w : World) : Calls Try.prog 46 #[.int .u64 28] w fun e w' => e = .returned (.int .i64 3) ∧ w = w' := by
  go_enter Try.func46, Try.ntmps46
  go_wp2
  go_ret
  exact ⟨by kernel_rfl, rfl⟩
theorem ones29 (w : World) : Calls Try.prog 46 #[.int .u64 29] w fun e w' => e = .returned (.int .i64 4) ∧ w = w' := by
  go_enter Try.func46, Try.ntmps46
  go_wp2
  go_ret
  exact ⟨by kernel_rfl, rfl⟩
theorem ones30 (w : World) : Calls Try.prog 46 #[.int .u64 30] w fun e w' => e = .returned (.int .i64 4) ∧ w = w' := by
  go_enter Try.func46, Try.ntmps46
  go_wp2
  go_ret
  exact ⟨by kernel_rfl, rfl⟩
theorem ones31 (w : World) : Calls Try.prog 46 #[.int .u64 31] w fun e w' => e = .returned (.int .i64 5) ∧ w = w' := by
  go_enter Try.func46, Try.ntmps46
  go_wp2
  go_ret
  exact ⟨by kernel_rfl, rfl⟩

theorem ones (s : Nat) (hs : s < 32) (w : World) : Calls Try.prog 46 #[.int .u64 (s : Int)] w fun e w' => e = .returned (.int .i64 (pc s : Nat)) ∧ w = w' :=
  match s, hs with
  | 0, _ => ones0 w
  | 1, _ => ones1 w
  | 2, _ => ones2 w
  | 3, _ => ones3 w
  | 4, _ => ones4 w
  | 5, _ => ones5 w
  | 6, _ => ones6 w
  | 7, _ => ones7 w
  | 8, _ => ones8 w
  | 9, _ => ones9 w
  | 10, _ => ones10 w
  | 11, _ => ones11 w
  | 12, _ => ones12 w
  | 13, _ => ones13 w
  | 14, _ => ones14 w
  | 15, _ => ones15 w
  | 16, _ => ones16 w
  | 17, _ => ones17 w
  | 18, _ => ones18 w
  | 19, _ => ones19 w
  | 20, _ => ones20 w
  | 21, _ => ones21 w
  | 22, _ => ones22 w
  | 23, _ => ones23 w
  | 24, _ => ones24 w
  | 25, _ => ones25 w
  | 26, _ => ones26 w
  | 27, _ => ones27 w
  | 28, _ => ones28 w
  | 29, _ => ones29 w
  | 30, _ => ones30 w
  | 31, _ => ones31 w
  | s + 32, h => absurd h (by omega)

set_option maxHeartbeats 400000 in
theorem onesCount (s : Nat) (hs : s < 32) (w : World) : Calls Try.prog 37 #[.int .u64 (s : Int)] w fun e w' => e = .returned (.int .i64 (pc s : Nat)) ∧ w = w' := by
  go_enter Try.func37, Try.ntmps37
  go_wp2_with fail
  refine (ones s hs _).mono ?_
  rintro e w' ⟨rfl, rfl⟩
  go_wp2_with fail
  go_ret
  exact ⟨rfl, rfl⟩
set_option maxHeartbeats 400000 in
theorem implSizeOf (s : Nat) (hs : s < 32) (w : World) : Calls Try.prog 22 #[.int .i64 (s : Int)] w fun e w' => e = .returned (.int .i64 (pc s : Nat)) ∧ w = w' := by
  go_enter Try.func22, Try.ntmps22
  go_wp2_with fail
  refine (onesCount s hs _).mono ?_
  rintro e w' ⟨rfl, rfl⟩
  go_wp2_with fail
  go_ret
  exact ⟨rfl, rfl⟩

end Go.Proofs.Ytpkilacappjkhaa

namespace Go.Proofs.Ytpkilacappjkhaa
open Go.RowKit

/-- the greatest size so far, -1 for none -/
def widTo (ns : List Nat) : Nat → Int
  | 0 => -1
  | k + 1 => max (widTo ns k) (pc (ns.getD k 0))
def widL (ns : List Nat) : Int := widTo ns ns.length
theorem widTo_bd (ns : List Nat) (k : Nat) : -1 ≤ widTo ns k ∧ widTo ns k ≤ 5 := by
  induction k with
  | zero => simp [widTo]
  | succ k ih =>
    have := pc_le5 (ns.getD k 0)
    simp only [widTo]
    omega
/-- the sets that are shattered -/
def shatN (n : Int) (zs : List Int) : List Nat := if vldB n zs = true then (List.range (2 ^ n.toNat)).filter (sht (zs.map Int.toNat)) else []
theorem shatL_N (n : Int) (zs : List Int) : shatL n zs = toI (shatN n zs) := by
  unfold shatL shatN
  split
  · rfl
  · rfl
theorem shatN_lt (n : Int) (zs : List Int) : ∀ t ∈ shatN n zs, t < 32 := by
  intro t ht
  unfold shatN at ht
  split at ht
  · rename_i h
    obtain ⟨m, ns, rfl, rfl, hc⟩ := vldB_cls h
    have := List.mem_range.1 (List.mem_filter.1 ht).1
    rw [Int.toNat_natCast] at this
    exact Nat.lt_of_lt_of_le this (pow_le_32 hc.pts)
  · simp at ht
theorem shatN_in {n : Nat} {ns : List Nat} (h : vldB n (toI ns) = true) : shatN n (toI ns) = (List.range (2 ^ n)).filter (sht ns) := by simp [shatN, h, toNat_toI]
def vcB (n : Int) (zs : List Int) : Int := widL (shatN n zs)
theorem vcB_bad {n : Int} {zs : List Int} (h : vldB n zs = false) : vcB n zs = -1 := by simp [vcB, shatN, h, widL, widTo]



set_option maxHeartbeats 800000 in
theorem implVCDimension (n : Int) (v : Value) (zs : List Int) (w : World) (h : Rd w v zs) :
    Calls Try.prog 10 #[.agg #[.int .i64 n, v]] w fun e w' => e = .returned (.int .i64 (vcB n zs)) ∧ Below w.heap.size w w' := by
  have H := Lib.hid h
  obtain ⟨a, b, off, cap, rfl, _, _, _⟩ := h
  have HLT := Lib.hid (shatN_lt n zs)
  have HE := Lib.hid (shatL_N n zs)
  have HV := Lib.hid (show vcB n zs = widL (shatN n zs) from rfl)
  go_enter Try.func10, Try.ntmps10
  go_wp2_with fail
  refine (implShatteredSets n _ zs _ (H.out.below (k := w.heap.size) (by go_grown) (Nat.le_refl _))).mono ?_
  intro e w2 h2
  rw [HE.out] at h2
  obtain ⟨a2, c2, rfl, hin2, hb2⟩ := RetInts.after (w := w) (by go_grown) h2
  have HI2 := Lib.hid hin2.rd
  have HB2 := Lib.hid hb2
  clear hin2 hb2 h2 HE
  generalize shatN n zs = ns at *
  obtain ⟨a3, b3, off3, cap3, e3, h1, h3, h5⟩ := HI2.out
  rw [toI_length] at *
  simp only [Value.slice.injEq] at e3
  obtain ⟨rfl, _, rfl⟩ := e3
  have H5 := Lib.hid h5
  have H1 := Lib.hid h1
  clear h5 h1
  go_wp2_with fail
  go_loop [3, 9] (fun o i => ∃ k : Nat, k ≤ ns.length ∧ i = .int .i64 k ∧ o = .int .i64 (widTo ns k)) (fun _ i => ns.length - (intOf i).toNat)
  case atStart => exact ⟨0, Nat.zero_le _, rfl, rfl⟩
  case round =>
    obtain ⟨k, hk, rfl, rfl⟩ := hrel
    have HS := Lib.hid (show widTo ns (k + 1) = max (widTo ns k) (pc (ns.getD k 0)) from rfl)
    by_cases hlt : k < ns.length
    · obtain ⟨rfl, _⟩ := H1.out (by omega)
      have hc := H5.out k hlt
      rw [toI_getD] at hc
      have hx := HLT.out _ (getD_of_lt hlt)
      generalize ns.getD k 0 = x at *
      generalize widTo ns k = o at *
      go_wp2_with fail
      refine (implSizeOf x hx _).mono ?_
      rintro e w' ⟨rfl, rfl⟩
      generalize pc x = q at *
      by_cases hd : o < (q : Int)
      · have HM := Lib.hid (show max o (q : Int) = q by omega)
        go_wp2_with fail
        go_round
        case rel => exact ⟨k + 1, by omega, by go_num, by rw [HS.out, HM.out]⟩
        case measure => simp [intOf]; omega
      · have HM := Lib.hid (show max o (q : Int) = o by omega)
        go_wp2_with fail
        go_round
        case rel => exact ⟨k + 1, by omega, by go_num, by rw [HS.out, HM.out]⟩
        case measure => simp [intOf]; omega
    · go_wp2_with fail
      go_ret
      obtain rfl : k = ns.length := by omega
      exact ⟨ret_int HV.out.symm, HB2.out⟩

end Go.Proofs.Ytpkilacappjkhaa

namespace Go.Proofs.Ytpkilacappjkhaa
open Go.RowKit

/-- sets below m of at most d points -/
def cntTo (d : Int) (m : Nat) : Nat := ((List.range m).filter (fun s => decide ((pc s : Int) ≤ d))).length
theorem cntTo_yes {d : Int} {m : Nat} (h : (pc m : Int) ≤ d) : cntTo d (m + 1) = cntTo d m + 1 := by simp [cntTo, List.range_succ, h]
theorem cntTo_no {d : Int} {m : Nat} (h : ¬ (pc m : Int) ≤ d) : cntTo d (m + 1) = cntTo d m := by
  have : decide ((pc m : Int) ≤ d) = false := by simpa using h
  simp [cntTo, List.range_succ, List.filter_append, this]
theorem cntTo_le (d : Int) (m : Nat) : cntTo d m ≤ m := by
  have := List.length_filter_le (fun s => decide ((pc s : Int) ≤ d)) (List.range m)
  simpa [cntTo] using this
def sauerB (n d : Int) : Int := if n < 0 ∨ 5 < n then -1 else cntTo d (2 ^ n.toNat)

def chooseTo (n : Nat) : Nat → Int
  | 0 => 1
  | i + 1 => chooseTo n i * ((n : Int) - i) / (i + 1)
theorem chooseTo_bd (n i : Nat) (hn : n ≤ 5) (hi : i ≤ n) : 0 ≤ chooseTo n i ∧ chooseTo n i ≤ 10 := by
  have : ∀ n : Fin 6, ∀ i : Fin 6, (i : Nat) ≤ n → 0 ≤ chooseTo n i ∧ chooseTo n i ≤ 10 := by decide
  exact this ⟨n, by omega⟩ ⟨i, by omega⟩ hi
def sumTo (n : Nat) : Nat → Int
  | 0 => 0
  | k + 1 => sumTo n k + chooseTo n k
theorem sumTo_bd (n k : Nat) (hn : n ≤ 5) (hk : k ≤ n + 1) : 0 ≤ sumTo n k ∧ sumTo n k ≤ 32 := by
  have : ∀ n : Fin 6, ∀ k : Fin 7, (k : Nat) ≤ n + 1 → 0 ≤ sumTo n k ∧ sumTo n k ≤ 32 := by decide
  exact this ⟨n, by omega⟩ ⟨k, by omega⟩ hk
theorem sumTo_cnt (n k : Nat) (hn : n ≤ 5) (hk : k ≤ n + 1) : sumTo n k = cntTo ((k : Int) - 1) (2 ^ n) := by
  have : ∀ n : Fin 6, ∀ k : Fin 7, (k : Nat) ≤ n + 1 → sumTo n k = cntTo (((k : Nat) : Int) - 1) (2 ^ (n : Nat)) := by decide +kernel
  exact this ⟨n, by omega⟩ ⟨k, by omega⟩ hk
theorem pc_le (n s : Nat) (hn : n ≤ 5) (hs : s < 2 ^ n) : pc s ≤ n := by
  have : ∀ n : Fin 6, ∀ s : Fin 32, (s : Nat) < 2 ^ (n : Nat) → pc s ≤ n := by decide +kernel
  exact this ⟨n, by omega⟩ ⟨s, Nat.lt_of_lt_of_le hs (pow_le_32 hn)⟩ hs
theorem cntTo_cap (n : Nat) (d e : Int) (hn : n ≤ 5) (h : ∀ p : Nat, p ≤ n → ((p : Int) ≤ d ↔ (p : Int) ≤ e)) : cntTo d (2 ^ n) = cntTo e (2 ^ n) := by
  unfold cntTo
  congr 1
  apply List.filter_congr
  intro s hs
  have := h (pc s) (pc_le n s hn (List.mem_range.1 hs))
  simp [this]





end Go.Proofs.Ytpkilacappjkhaa
