/- The model's small functions: meet, size, hasInt, tidy, trace. Conditions: sets of at most 5 points, at most 1048576 of them. -/
import Derived.Test.YtlkodggaebnkfaaDoorApp
import Derived.Test.YtlkodggaebnkfaaDoorPow
namespace Go.Proofs.YtlkodggaebnkfaaDoor
open Go.RowKit

set_option maxHeartbeats 400000 in
theorem specMeet (a b : Nat) (ha : a < 4096) (hb : b < 4096) (w : World) :
    Calls Tryd.prog 61 #[.int .i64 a, .int .i64 b] w fun e w' => e = .returned (.int .i64 ((a &&& b : Nat) : Int)) ∧ w = w' := by
  have h := i64_and a b ha hb
  go_enter Tryd.func61, Tryd.ntmps61
  go_wp2
  go_ret
  exact ⟨rfl, rfl⟩

/-- points counted so far -/
def pcTo (s k : Nat) : Nat := ((List.range k).map (fun j => s / 2 ^ j % 2)).sum
theorem pcTo_succ (s k : Nat) : pcTo s (k + 1) = pcTo s k + s / 2 ^ k % 2 := by simp [pcTo, List.range_succ]
theorem pcTo_five (s : Nat) : pcTo s 5 = pc s := by simp [pcTo, pc, List.range_succ]; omega
theorem pcTo_done (s k : Nat) (hk : k ≤ 5) (h : s / 2 ^ k = 0) : pcTo s k = pc s := by
  rw [← pcTo_five]
  have : ∀ d, k + d ≤ 5 → pcTo s (k + d) = pcTo s k := by
    intro d
    induction d with
    | zero => intro _; rfl
    | succ d ih =>
      intro hd
      have e : s / 2 ^ (k + d) = 0 := by rw [Nat.pow_add, ← Nat.div_div_eq_div_mul, h]; simp
      rw [show k + (d + 1) = (k + d) + 1 by omega, pcTo_succ, ih (by omega), e]
      simp
  have := this (5 - k) (by omega)
  rw [show k + (5 - k) = 5 by omega] at this
  exact this.symm
theorem pcTo_le (s k : Nat) : pcTo s k ≤ k := by
  induction k with
  | zero => simp [pcTo]
  | succ k ih => rw [pcTo_succ]; have := Nat.mod_lt (s / 2 ^ k) (show 0 < 2 by decide); omega

set_option maxHeartbeats 400000 in
theorem specSize (s : Nat) (hs : s < 32) (w : World) :
    Calls Tryd.prog 63 #[.int .i64 s] w fun e w' => e = .returned (.int .i64 (pc s : Nat)) ∧ w = w' := by
  go_enter Tryd.func63, Tryd.ntmps63
  go_wp2
  go_loop [0, 3] (fun i o => ∃ k : Nat, k ≤ 5 ∧ i = .int .i64 ((s / 2 ^ k : Nat) : Int) ∧ o = .int .i64 ((pcTo s k : Nat) : Int)) (fun i _ => (intOf i).toNat)
  case atStart => exact ⟨0, by omega, by simp, by simp [pcTo]⟩
  case round =>
    obtain ⟨k, hk, rfl, rfl⟩ := hrel
    have hle := pcTo_le s k
    have HS := Lib.hid (pcTo_succ s k)
    have HD := Lib.hid (pcTo_done s k hk)
    have hlt5 : s / 2 ^ k ≤ s := Nat.div_le_self _ _
    have H5 := Lib.hid (show k = 5 → s / 2 ^ k = 0 from fun h => by subst h; exact Nat.div_eq_of_lt hs)
    have HN := Lib.hid (show s / 2 ^ k / 2 = s / 2 ^ (k + 1) by rw [Nat.div_div_eq_div_mul, Nat.pow_succ])
    generalize s / 2 ^ k = r at *
    generalize pcTo s k = n at *
    by_cases hlt : 0 < r
    · go_wp2
      go_round
      case rel => exact ⟨k + 1, by have := H5.out; omega, by rw [← HN.out]; go_num, by rw [HS.out]; go_num⟩
      case measure => simp [intOf]; omega
    · have HP := Lib.hid (HD.out (by omega))
      clear HD HN HS
      obtain rfl : r = 0 := by omega
      go_wp2
      go_ret
      exact ⟨ret_int (by rw [HP.out]), rfl⟩

/-- is x among zs? -/
def hasB (zs : List Int) (x : Int) : Bool := decide (x ∈ zs)
theorem hasB_at {zs : List Int} {x : Int} {k : Nat} (hk : k < zs.length) (h : zs.getD k 0 = x) : hasB zs x = true := by
  simp only [hasB, decide_eq_true_eq]
  rw [← h, List.getD_eq_getElem?_getD, List.getElem?_eq_getElem hk]
  exact List.getElem_mem hk
theorem hasB_none {zs : List Int} {x : Int} (h : ∀ j, j < zs.length → zs.getD j 0 ≠ x) : hasB zs x = false := by
  simp only [hasB, decide_eq_false_iff_not]
  intro hm
  obtain ⟨j, hj, e⟩ := List.getElem_of_mem hm
  apply h j hj
  rw [List.getD_eq_getElem?_getD, List.getElem?_eq_getElem hj]
  exact e

set_option maxHeartbeats 400000 in
theorem specHasInt (v : Value) (zs : List Int) (x : Int) (w : World) (h : Rd w v zs) :
    Calls Tryd.prog 42 #[v, .int .i64 x] w fun e w' => e = .returned (.bool (hasB zs x)) ∧ w = w' := by
  obtain ⟨a, b, off, cap, rfl, h1, h3, h5⟩ := h
  have H5 := Lib.hid h5
  have H1 := Lib.hid h1
  clear h5 h1
  go_enter Tryd.func42, Tryd.ntmps42
  go_wp2
  go_loop [5] (fun i => ∃ k : Nat, k ≤ zs.length ∧ i = .int .i64 k ∧ Hid (∀ j, j < k → zs.getD j 0 ≠ x)) (fun i => zs.length - (intOf i).toNat)
  case atStart => exact ⟨0, Nat.zero_le _, rfl, Lib.hid fun j hj => by omega⟩
  case round =>
    obtain ⟨k, hk, rfl, HN⟩ := hrel
    by_cases hlt : k < zs.length
    · obtain ⟨rfl, _⟩ := H1.out (by omega)
      have hc := H5.out k hlt
      have HY := Lib.hid (fun h => hasB_at (x := x) hlt h)
      generalize hy : zs.getD k 0 = y at hc HY
      have HE := Lib.hid hy
      clear hy
      by_cases hxy : y = x
      · have hb : (y == x) = true := by simpa using hxy
        have HR := Lib.hid (HY.out hxy)
        clear hxy
        go_wp2
        go_ret
        exact ⟨ret_bool HR.out.symm, rfl⟩
      · have hb : (y == x) = false := by simpa using hxy
        have HX := Lib.hid hxy
        clear hxy
        go_wp2
        go_round
        case rel => exact ⟨k + 1, by omega, by go_num, Lib.hid fun j hj => by
          by_cases e : j = k
          · subst e; rw [HE.out]; exact HX.out
          · exact HN.out j (by omega)⟩
        case measure => simp [intOf]; omega
    · go_wp2
      go_ret
      obtain rfl : k = zs.length := by omega
      exact ⟨ret_bool (hasB_none HN.out).symm, rfl⟩

/-- the different numbers of a list, ascending -/
def tidyL (ms : List Nat) : List Nat := flt (fun p => decide (p ∈ ms))

end Go.Proofs.YtlkodggaebnkfaaDoor
