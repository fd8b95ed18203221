/- ValidClass of the model. Conditions: Sets is a slice of ints. -/
import Derived.Test.YtlkodggaebnkfaaDoorVal
import Derived.Test.YtlkodggaebnkfaaDoorEq
namespace Go.Proofs.YtlkodggaebnkfaaDoor
open Go.RowKit

theorem inRange_yes (n : Nat) (hn : n ≤ 5) (w : World) :
    Calls Tryd.prog 60 #[.int .i64 n, .int .i64 0, .int .i64 5] w fun e w' => e = .returned (.bool true) ∧ w' = w :=
  (specInRange _ _ _ _).mono fun e w' ⟨he, hw⟩ => ⟨by rw [he]; simp; omega, hw.symm⟩
theorem inRange_no (n : Int) (hn : n < 0 ∨ 5 < n) (w : World) :
    Calls Tryd.prog 60 #[.int .i64 n, .int .i64 0, .int .i64 5] w fun e w' => e = .returned (.bool false) ∧ w' = w :=
  (specInRange _ _ _ _).mono fun e w' ⟨he, hw⟩ => ⟨by rw [he]; simp; omega, hw.symm⟩
theorem power_q (n : Nat) (hn : n ≤ 5) (w : World) :
    Calls Tryd.prog 53 #[.int .i64 n] w fun e w' => e = .returned (.int .i64 (2 ^ n)) ∧ w' = w :=
  (specPower _ _ (by omega) (by omega)).mono fun e w' ⟨he, hw⟩ => ⟨by rw [he]; simp, hw.symm⟩

set_option maxHeartbeats 3200000 in
set_option maxRecDepth 100000 in
theorem specValid_in (n : Nat) (hn : n ≤ 5) (v : Value) (zs : List Int) (w : World) (h : Rd w v zs) :
    Calls Tryd.prog 35 #[.agg #[.int .i64 n, v]] w fun e w' => e = .returned (.bool (vldB n zs)) ∧ Below w.heap.size w w' := by
  obtain ⟨a, g, off, cap, rfl, h1, h3, h5⟩ := h
  have H5 := Lib.hid h5
  have H1 := Lib.hid h1
  clear h5 h1
  go_enter Tryd.func35, Tryd.ntmps35
  go_wp2_with fail
  go_loopw [3] (fun i wr => ∃ k : Nat, k ≤ zs.length ∧ i = .int .i64 k ∧ okTo n zs k ∧ Box n (.slice a zs.length cap) w wr) (fun i _ => zs.length - (intOf i).toNat)
  case atStart => exact ⟨0, Nat.zero_le _, rfl, okTo_zero _ _, Box.made _ _ _ _⟩
  case round =>
    obtain ⟨k, hk, rfl, hok, hbox⟩ := hrel
    have HBX := Lib.hid hbox
    obtain ⟨hbe, hb0, hb1⟩ := hbox
    have HBE := Lib.hid hbe
    clear hbe
    have HO := Lib.hid hok
    clear hok
    by_cases hlt : k < zs.length
    · obtain ⟨rfl, hbl⟩ := H1.out (by omega)
      have hc := (HBE.out.cell (p := ⟨g, off + k, none⟩) hbl).trans (H5.out k hlt)
      have hkI : (k : Int) < (zs.length : Int) := by omega
      have HB := Lib.hid (fun h => vldB_at (n := n) (zs := zs) hlt h)
      have HS := Lib.hid (fun h1 h2 h3 => okTo_succ (n := n) HO.out h1 h2 h3)
      have hy0 := (HBE.out.cell (p := ⟨g, off + (k - 1), none⟩) hbl).trans (H5.out (k - 1) (by omega))
      generalize zs.getD k 0 = x at hc HB HS
      generalize zs.getD (k - 1) 0 = y at hy0 HB HS
      by_cases hneg : x < 0
      · clear hy0
        have hd : decide (x < 0) = true := by simpa using hneg
        go_wp2_with fail
        go_quiet (fail)
        go_wp2_with fail
        go_ret
        exact ⟨ret_bool (HB.out (by omega)).symm, below_drewN HBE.out _⟩
      · have hd : decide (x < 0) = false := by simpa using hneg
        by_cases hbig : (2 : Int) ^ n ≤ x
        · clear hy0
          have hd2 : decide ((2 : Int) ^ n ≤ x) = true := by simpa using hbig
          go_wp2_with fail
          go_quiet (first | (go_at_call 60; exact Calls.quiet_of_same (inRange_yes n hn _)) | (go_at_call 53; exact Calls.quiet_of_same (power_q n hn _)))
          go_wp2_with fail
          go_ret
          exact ⟨ret_bool (HB.out (by omega)).symm, below_drewN HBE.out _⟩
        · have hd2 : decide ((2 : Int) ^ n ≤ x) = false := by simpa using hbig
          by_cases hk0 : k = 0
          · clear hy0
            have hd3 : decide (0 < k) = false := by simpa using hk0
            have HK := Lib.hid hk0
            clear hk0
            go_wp2_with fail
            go_quiet (first | (go_at_call 60; exact Calls.quiet_of_same (inRange_yes n hn _)) | (go_at_call 53; exact Calls.quiet_of_same (power_q n hn _)))
            go_wp2_with fail
            go_roundw
            case rel => exact ⟨k + 1, by omega, by go_num, HS.out (by omega) (by omega) (fun h => by have := HK.out; omega), HBX.out.drewN _⟩
            case measure => simp [intOf]; omega
          · have hd3 : decide (0 < k) = true := by simp; omega
            have hk1 : 1 ≤ k := by omega
            have hk2 : (0 : Int) ≤ (k : Int) - 1 := by omega
            have hk3 : (k : Int) - 1 < (zs.length : Int) := by omega
            clear hk0
            by_cases hxy : x ≤ y
            · have hd4 : decide (x ≤ y) = true := by simpa using hxy
              go_wp2_with fail
              go_quiet (first | (go_at_call 60; exact Calls.quiet_of_same (inRange_yes n hn _)) | (go_at_call 53; exact Calls.quiet_of_same (power_q n hn _)))
              go_wp2_with fail
              go_ret
              exact ⟨ret_bool (HB.out (by rintro ⟨_, _, h⟩; have := h (by omega); omega)).symm, below_drewN HBE.out _⟩
            · have hd4 : decide (x ≤ y) = false := by simpa using hxy
              go_wp2_with fail
              go_quiet (first | (go_at_call 60; exact Calls.quiet_of_same (inRange_yes n hn _)) | (go_at_call 53; exact Calls.quiet_of_same (power_q n hn _)))
              go_wp2_with fail
              go_roundw
              case rel => exact ⟨k + 1, by omega, by go_num, HS.out (by omega) (by omega) (fun h => by omega), HBX.out.drewN _⟩
              case measure => simp [intOf]; omega
    · go_wp2_with fail
      refine (inRange_yes n hn _).mono ?_
      rintro e w1 ⟨rfl, rfl⟩
      go_wp2_with fail
      go_ret
      obtain rfl : k = zs.length := by omega
      exact ⟨ret_bool (vldB_all hn HO.out).symm, HBE.out⟩

set_option maxHeartbeats 3200000 in
set_option maxRecDepth 100000 in
theorem specValid_out (n : Int) (hn : n < 0 ∨ 5 < n) (v : Value) (zs : List Int) (w : World) (h : Rd w v zs) :
    Calls Tryd.prog 35 #[.agg #[.int .i64 n, v]] w fun e w' => e = .returned (.bool false) ∧ Below w.heap.size w w' := by
  obtain ⟨a, g, off, cap, rfl, h1, h3, h5⟩ := h
  have H5 := Lib.hid h5
  have H1 := Lib.hid h1
  clear h5 h1
  have HN := Lib.hid hn
  clear hn
  go_enter Tryd.func35, Tryd.ntmps35
  go_wp2_with fail
  go_loopw [3] (fun i wr => ∃ k : Nat, k ≤ zs.length ∧ i = .int .i64 k ∧ Box n (.slice a zs.length cap) w wr) (fun i _ => zs.length - (intOf i).toNat)
  case atStart => exact ⟨0, Nat.zero_le _, rfl, Box.made _ _ _ _⟩
  case round =>
    obtain ⟨k, hk, rfl, hbox⟩ := hrel
    have HBX := Lib.hid hbox
    obtain ⟨hbe, hb0, hb1⟩ := hbox
    have HBE := Lib.hid hbe
    clear hbe
    by_cases hlt : k < zs.length
    · obtain ⟨rfl, hbl⟩ := H1.out (by omega)
      have hc := (HBE.out.cell (p := ⟨g, off + k, none⟩) hbl).trans (H5.out k hlt)
      have hkI : (k : Int) < (zs.length : Int) := by omega
      have hy0 := (HBE.out.cell (p := ⟨g, off + (k - 1), none⟩) hbl).trans (H5.out (k - 1) (by omega))
      generalize zs.getD k 0 = x at hc
      generalize zs.getD (k - 1) 0 = y at hy0
      by_cases hneg : x < 0
      · clear hy0
        have hd : decide (x < 0) = true := by simpa using hneg
        go_wp2_with fail
        go_quiet (fail)
        go_wp2_with fail
        go_ret
        exact ⟨rfl, below_drewN HBE.out _⟩
      · have hd : decide (x < 0) = false := by simpa using hneg
        by_cases hk0 : k = 0
        · clear hy0
          have hd3 : decide (0 < k) = false := by simpa using hk0
          have HK := Lib.hid hk0
          clear hk0
          go_wp2_with fail
          go_quiet ((go_at_call 60; exact Calls.quiet_of_same (inRange_no n HN.out _)))
          go_wp2_with fail
          go_roundw
          case rel => exact ⟨k + 1, by omega, by go_num, HBX.out.drewN _⟩
          case measure => simp [intOf]; omega
        · have hd3 : decide (0 < k) = true := by simp; omega
          have hk1 : 1 ≤ k := by omega
          have hk2 : (0 : Int) ≤ (k : Int) - 1 := by omega
          have hk3 : (k : Int) - 1 < (zs.length : Int) := by omega
          clear hk0
          by_cases hxy : x ≤ y
          · have hd4 : decide (x ≤ y) = true := by simpa using hxy
            go_wp2_with fail
            go_quiet ((go_at_call 60; exact Calls.quiet_of_same (inRange_no n HN.out _)))
            go_wp2_with fail
            go_ret
            exact ⟨rfl, below_drewN HBE.out _⟩
          · have hd4 : decide (x ≤ y) = false := by simpa using hxy
            go_wp2_with fail
            go_quiet ((go_at_call 60; exact Calls.quiet_of_same (inRange_no n HN.out _)))
            go_wp2_with fail
            go_roundw
            case rel => exact ⟨k + 1, by omega, by go_num, HBX.out.drewN _⟩
            case measure => simp [intOf]; omega
    · go_wp2_with fail
      refine (inRange_no n HN.out _).mono ?_
      rintro e w1 ⟨rfl, rfl⟩
      go_wp2_with fail
      go_ret
      exact ⟨rfl, HBE.out⟩

theorem specValid (n : Int) (v : Value) (zs : List Int) (w : World) (h : Rd w v zs) :
    Calls Tryd.prog 35 #[.agg #[.int .i64 n, v]] w fun e w' => e = .returned (.bool (vldB n zs)) ∧ Below w.heap.size w w' := by
  by_cases h0 : n < 0
  · rw [vldB_low h0]; exact specValid_out n (.inl h0) v zs w h
  · by_cases h1 : 5 < n
    · rw [vldB_high h1]; exact specValid_out n (.inr h1) v zs w h
    · obtain ⟨m, rfl⟩ := Int.eq_ofNat_of_zero_le (show 0 ≤ n by omega)
      exact specValid_in m (by omega) v zs w h


end Go.Proofs.YtlkodggaebnkfaaDoor
