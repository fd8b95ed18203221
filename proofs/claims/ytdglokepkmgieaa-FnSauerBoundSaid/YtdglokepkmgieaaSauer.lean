/- SauerBound, the program's and the model's, and the exact law on it. No conditions. -/
import Derived.Test.YtdglokepkmgieaaOnes
import Derived.Test.YtdglokepkmgieaaSpec1
import Derived.Test.YtdglokepkmgieaaVal
namespace Go.Proofs.Ytdglokepkmgieaa
open Go.RowKit

/-- sets below m of at most d points -/
def cntTo (d : Int) (m : Nat) : Nat := ((List.range m).filter (fun s => decide ((pc s : Int) ≤ d))).length
theorem cntTo_yes {d : Int} {m : Nat} (h : (pc m : Int) ≤ d) : cntTo d (m + 1) = cntTo d m + 1 := by simp [cntTo, List.range_succ, h]
theorem cntTo_no {d : Int} {m : Nat} (h : ¬ (pc m : Int) ≤ d) : cntTo d (m + 1) = cntTo d m := by
  have : decide ((pc m : Int) ≤ d) = false := by simpa using h
  simp [cntTo, List.range_succ, List.filter_append, this]
theorem cntTo_le (d : Int) (m : Nat) : cntTo d m ≤ m := by
  have := List.length_filter_le (fun s => decide ((pc s : Int) ≤ d)) (List.range m)
  simpa [cntTo] using this
def sauerB (n d : Int) : Int := if n < 0 ∨ 5 < n then -1 else cntTo d (2 ^ n.toNat)

def chooseTo (n : Nat) : Nat → Int
  | 0 => 1
  | i + 1 => chooseTo n i * ((n : Int) - i) / (i + 1)
theorem chooseTo_bd (n i : Nat) (hn : n ≤ 5) (hi : i ≤ n) : 0 ≤ chooseTo n i ∧ chooseTo n i ≤ 10 := by
  have : ∀ n : Fin 6, ∀ i : Fin 6, (i : Nat) ≤ n → 0 ≤ chooseTo n i ∧ chooseTo n i ≤ 10 := by decide
  exact this ⟨n, by omega⟩ ⟨i, by omega⟩ hi
def sumTo (n : Nat) : Nat → Int
  | 0 => 0
  | k + 1 => sumTo n k + chooseTo n k
theorem sumTo_bd (n k : Nat) (hn : n ≤ 5) (hk : k ≤ n + 1) : 0 ≤ sumTo n k ∧ sumTo n k ≤ 32 := by
  have : ∀ n : Fin 6, ∀ k : Fin 7, (k : Nat) ≤ n + 1 → 0 ≤ sumTo n k ∧ sumTo n k ≤ 32 := by decide
  exact this ⟨n, by omega⟩ ⟨k, by omega⟩ hk
theorem sumTo_cnt (n k : Nat) (hn : n ≤ 5) (hk : k ≤ n + 1) : sumTo n k = cntTo ((k : Int) - 1) (2 ^ n) := by
  have : ∀ n : Fin 6, ∀ k : Fin 7, (k : Nat) ≤ n + 1 → sumTo n k = cntTo (((k : Nat) : Int) - 1) (2 ^ (n : Nat)) := by decide +kernel
  exact this ⟨n, by omega⟩ ⟨k, by omega⟩ hk
theorem pc_le (n s : Nat) (hn : n ≤ 5) (hs : s < 2 ^ n) : pc s ≤ n := by
  have : ∀ n : Fin 6, ∀ s : Fin 32, (s : Nat) < 2 ^ (n : Nat) → pc s ≤ n := by decide +kernel
  exact this ⟨n, by omega⟩ ⟨s, Nat.lt_of_lt_of_le hs (pow_le_32 hn)⟩ hs
theorem cntTo_cap (n : Nat) (d e : Int) (hn : n ≤ 5) (h : ∀ p : Nat, p ≤ n → ((p : Int) ≤ d ↔ (p : Int) ≤ e)) : cntTo d (2 ^ n) = cntTo e (2 ^ n) := by
  unfold cntTo
  congr 1
  apply List.filter_congr
  intro s hs
  have := h (pc s) (pc_le n s hn (List.mem_range.1 hs))
  simp [this]

set_option maxHeartbeats 400000 in
theorem specChoose (n k : Nat) (hn : n ≤ 5) (hk : k ≤ n) (w : World) :
    Calls Try.prog 58 #[.int .i64 n, .int .i64 k] w fun e w' => e = .returned (.int .i64 (chooseTo n k)) ∧ w' = w := by
  go_enter Try.func58, Try.ntmps58
  go_wp2
  go_loop [5, 6] (fun o i => ∃ j : Nat, j ≤ k ∧ i = .int .i64 j ∧ o = .int .i64 (chooseTo n j)) (fun _ i => k - (intOf i).toNat)
  case atStart => exact ⟨0, Nat.zero_le _, rfl, rfl⟩
  case round =>
    obtain ⟨j, hj, rfl, rfl⟩ := hrel
    have hb := chooseTo_bd n j hn (by omega)
    have HS := Lib.hid (show chooseTo n (j + 1) = chooseTo n j * ((n : Int) - j) / (j + 1) from rfl)
    generalize hcc : chooseTo n j = c at *
    have HCC := Lib.hid hcc
    clear hcc
    by_cases hlt : j < k
    · have hm : 0 ≤ c * ((n : Int) - j) := Int.mul_nonneg hb.1 (by omega)
      have hm2 : c * ((n : Int) - j) ≤ 10 * 5 := Int.mul_le_mul hb.2 (by omega) (by omega) (by omega)
      go_wp2
      go_round
      case rel => exact ⟨j + 1, by omega, by go_num, by rw [HS.out]⟩
      case measure => simp [intOf]; omega
    · go_wp2
      go_ret
      obtain rfl : j = k := by omega
      exact ⟨ret_int HCC.out.symm, rfl⟩

set_option maxHeartbeats 400000 in
theorem specSauer (n : Nat) (d : Int) (hn : n ≤ 5) (w : World) :
    Calls Try.prog 50 #[.int .i64 n, .int .i64 d] w fun e w' => e = .returned (.int .i64 (cntTo d (2 ^ n) : Nat)) ∧ w' = w := by
  go_enter Try.func50, Try.ntmps50
  go_wp2
  go_loop [5, 6] (fun o i => ∃ j : Nat, (j : Int) ≤ max 0 (min d n + 1) ∧ j ≤ n + 1 ∧ i = .int .i64 j ∧ o = .int .i64 (sumTo n j)) (fun _ i => n + 1 - (intOf i).toNat)
  case atStart => exact ⟨0, by omega, by omega, rfl, rfl⟩
  case round =>
    obtain ⟨j, hj, hjn, rfl, rfl⟩ := hrel
    have hb := sumTo_bd n j hn hjn
    have HS := Lib.hid (show sumTo n (j + 1) = sumTo n j + chooseTo n j from rfl)
    have HC := Lib.hid (sumTo_cnt n j hn hjn)
    generalize sumTo n j = c at *
    by_cases hlt : (j : Int) ≤ min d n
    · have hcb := chooseTo_bd n j hn (by omega)
      by_cases hdn : (n : Int) < d
      all_goals
        go_wp2_with fail
        refine (specChoose n j hn (by omega) _).mono ?_
        rintro e w' ⟨rfl, rfl⟩
        generalize chooseTo n j = x at *
        go_wp2_with fail
        go_round
        case rel => exact ⟨j + 1, by omega, by omega, by go_num, by rw [HS.out]⟩
        case measure => simp [intOf]; omega
    · by_cases hdn : (n : Int) < d
      all_goals
        go_wp2_with fail
        go_ret
        refine ⟨ret_int ?_, rfl⟩
        rw [HC.out, cntTo_cap n ((j : Int) - 1) d hn (fun p hp => by omega)]

set_option maxHeartbeats 400000 in
theorem specSauerBound (n d : Int) (w : World) :
    Calls Try.prog 30 #[.int .i64 n, .int .i64 d] w fun e w' => e = .returned (.int .i64 (sauerB n d)) ∧ w' = w := by
  by_cases h : n < 0 ∨ 5 < n
  · have hr : (decide ((0 : Int) ≤ n) && decide (n ≤ 5)) = false := by simp; omega
    have HS := Lib.hid (show sauerB n d = -1 by rw [sauerB, if_pos h])
    have HR := Lib.hid hr
    clear hr h
    go_enter Try.func30, Try.ntmps30
    go_wp2_with fail
    refine (specInRange _ _ _ _).mono ?_
    rintro e w' ⟨rfl, rfl⟩
    rw [HR.out]
    go_wp2_with fail
    go_ret
    exact ⟨ret_int HS.out.symm, rfl⟩
  · have HS := Lib.hid (show sauerB n d = cntTo d (2 ^ n.toNat) by rw [sauerB, if_neg h])
    obtain ⟨m, rfl⟩ := Int.eq_ofNat_of_zero_le (show 0 ≤ n by omega)
    have hm : m ≤ 5 := by omega
    have HR := Lib.hid (show (decide ((0 : Int) ≤ (m : Int)) && decide ((m : Int) ≤ 5)) = true by simp; omega)
    clear h
    go_enter Try.func30, Try.ntmps30
    go_wp2_with fail
    refine (specInRange _ _ _ _).mono ?_
    rintro e w' ⟨rfl, rfl⟩
    rw [HR.out]
    go_wp2_with fail
    refine (specSauer m d hm _).mono ?_
    rintro e w' ⟨rfl, rfl⟩
    go_wp2_with fail
    go_ret
    exact ⟨ret_int (by rw [HS.out, Int.toNat_natCast]), rfl⟩

set_option maxHeartbeats 400000 in
theorem implSauerBound (n d : Int) (w : World) :
    Calls Try.prog 28 #[.int .i64 n, .int .i64 d] w fun e w' => e = .returned (.int .i64 (sauerB n d)) ∧ w' = w := by
  by_cases h : n < 0 ∨ 5 < n
  · have HS := Lib.hid (show sauerB n d = -1 by rw [sauerB, if_pos h])
    rcases h with h | h
    · go_enter Try.func28, Try.ntmps28
      go_wp2
      go_ret
      exact ⟨ret_int HS.out.symm, rfl⟩
    · have h' : ¬ n < 0 := by omega
      go_enter Try.func28, Try.ntmps28
      go_wp2
      go_ret
      exact ⟨ret_int HS.out.symm, rfl⟩
  · have HS := Lib.hid (show sauerB n d = cntTo d (2 ^ n.toNat) by rw [sauerB, if_neg h])
    obtain ⟨m, rfl⟩ := Int.eq_ofNat_of_zero_le (show 0 ≤ n by omega)
    have hm : m ≤ 5 := by omega
    have h0 : ¬ (m : Int) < 0 := by omega
    have h0' : ¬ (5 : Int) < m := by omega
    clear h
    have hw := wrap_pow m hm
    have HW := Lib.hid hw.1
    have hw2 := hw.2
    clear hw
    have hp : ((2 ^ m : Nat) : Int) = (2 : Int) ^ m := by simp
    have HP := Lib.hid hp
    clear hp
    go_enter Try.func28, Try.ntmps28
    go_wp2_with fail
    go_loop [5, 15] (fun o i => ∃ j : Nat, (j : Int) ≤ wrap64 (2 ^ m) ∧ i = .int .i64 j ∧ o = .int .i64 (cntTo d j : Nat)) (fun _ i => 40 - (intOf i).toNat)
    case atStart => exact ⟨0, by omega, rfl, by simp [cntTo]⟩
    case round =>
      obtain ⟨j, hj, rfl, rfl⟩ := hrel
      have hle := cntTo_le d j
      by_cases hlt : (j : Int) < wrap64 (2 ^ m)
      · by_cases hd : (pc j : Int) ≤ d
        · have HC := Lib.hid (cntTo_yes hd)
          generalize cntTo d j = c at *
          go_wp2_with fail
          refine (implSizeOf j (by omega) _).mono ?_
          rintro e w' ⟨rfl, rfl⟩
          go_wp2_with fail
          go_round
          case rel => exact ⟨j + 1, by omega, by go_num, by rw [HC.out]; go_num⟩
          case measure => simp [intOf]; omega
        · have HC := Lib.hid (cntTo_no hd)
          generalize cntTo d j = c at *
          go_wp2_with fail
          refine (implSizeOf j (by omega) _).mono ?_
          rintro e w' ⟨rfl, rfl⟩
          go_wp2_with fail
          go_round
          case rel => exact ⟨j + 1, by omega, by go_num, by rw [HC.out]⟩
          case measure => simp [intOf]; omega
      · go_wp2_with fail
        go_ret
        have hj2 : j = 2 ^ m := by have := HW.out; have := HP.out; omega
        exact ⟨ret_int (by rw [HS.out, Int.toNat_natCast, hj2]), rfl⟩

end Go.Proofs.Ytdglokepkmgieaa
