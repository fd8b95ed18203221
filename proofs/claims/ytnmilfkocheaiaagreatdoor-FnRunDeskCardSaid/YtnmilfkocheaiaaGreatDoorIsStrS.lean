/- The model's cubeIn, strongly, IsStrong. Conditions: Sets is a slice of ints. -/
import Derived.Test.YtnmilfkocheaiaaGreatDoorZD
import Derived.Test.YtnmilfkocheaiaaGreatDoorZH
namespace Go.Proofs.YtnmilfkocheaiaaGreatDoor
open Go.RowKit

set_option maxRecDepth 100000 in
theorem add_or_fin : ∀ c a : Fin 32, (c : Nat) &&& (a : Nat) = 0 → (c : Nat) + a = c ||| a := by decide
theorem add_or {c a s : Nat} (hc : c < 32) (ha : a < 32) (h : c &&& s = 0) (h2 : a &&& s = a) : c + a = c ||| a := by
  refine add_or_fin ⟨c, hc⟩ ⟨a, ha⟩ ?_
  show c &&& a = 0
  rw [← h2, Nat.and_comm a s, ← Nat.and_assoc, h, Nat.zero_and]

set_option maxHeartbeats 800000 in
theorem specCubeIn (v : Value) (ns : List Nat) (c s : Nat) (hc : c < 32) (hs : s < 32) (h0 : c &&& s = 0) (w : World) (h : Rd w v (toI ns)) :
    Calls Tryz.prog 91 #[v, .int .i64 (c : Int), .int .i64 (s : Int)] w fun e w' => e = .returned (.bool (cubTo (fun x => decide (x ∈ ns)) c s (s + 1))) ∧ w' = w := by
  have H := Lib.hid h
  have H0 := Lib.hid h0
  clear h h0
  go_enter Tryz.func91, Tryz.ntmps91
  go_wp2_with fail
  go_loop [7] (fun i => ∃ k : Nat, k ≤ s + 1 ∧ i = .int .i64 k ∧ cubTo (fun x => decide (x ∈ ns)) c s k = true) (fun i => s + 1 - (intOf i).toNat)
  case atStart => exact ⟨0, Nat.zero_le _, rfl, rfl⟩
  case round =>
    obtain ⟨k, hk, rfl, hcu⟩ := hrel
    have HC := Lib.hid hcu
    clear hcu
    by_cases hlt : k < s + 1
    · by_cases he : k &&& s = k
      · have HE := Lib.hid he
        have HA := Lib.hid (add_or hc (by omega) H0.out he)
        have ho : c ||| k < 32 := Nat.or_lt_two_pow (n := 5) hc (by omega)
        have HQ := Lib.hid (hasB_nat ns (c + k))
        have HI := Lib.hid (specHasInt _ _ ((c + k : Nat) : Int) w H.out)
        have hcast : ((c + k : Nat) : Int) = (c : Int) + k := by omega
        rw [hcast] at HI HQ
        clear he hcast
        by_cases hq : decide (c ||| k ∈ ns) = true
        · have HY := Lib.hid (cubTo_yes (K := fun x => decide (x ∈ ns)) (s := s) hq)
          have HQ2 := Lib.hid (show hasB (toI ns) ((c : Int) + k) = true by rw [HQ.out, HA.out]; exact hq)
          clear hq
          go_wp2_with fail
          refine (specMeet k s (by omega) (by omega) _).mono ?_
          rintro e w1 ⟨rfl, rfl⟩
          rw [HE.out]
          go_wp2_with fail
          refine HI.out.mono ?_
          rintro e w1 ⟨rfl, rfl⟩
          rw [HQ2.out]
          go_wp2_with fail
          go_round
          case rel => exact ⟨k + 1, by omega, by go_num, by rw [HY.out]; exact HC.out⟩
          case measure => simp [intOf]; omega
        · rw [Bool.not_eq_true] at hq
          have HN := Lib.hid (cubTo_no (K := fun x => decide (x ∈ ns)) HE.out hq hlt)
          have HQ2 := Lib.hid (show hasB (toI ns) ((c : Int) + k) = false by rw [HQ.out, HA.out]; exact hq)
          clear hq
          go_wp2_with fail
          refine (specMeet k s (by omega) (by omega) _).mono ?_
          rintro e w1 ⟨rfl, rfl⟩
          rw [HE.out]
          go_wp2_with fail
          refine HI.out.mono ?_
          rintro e w1 ⟨rfl, rfl⟩
          rw [HQ2.out]
          go_wp2_with fail
          go_ret
          exact ⟨ret_bool HN.out.symm, rfl⟩
      · have HY := Lib.hid (cubTo_skip (K := fun x => decide (x ∈ ns)) (c := c) he)
        have HNE := Lib.hid (show ((k &&& s : Nat) : Int) ≠ (k : Int) by omega)
        clear he
        go_wp2_with fail
        refine (specMeet k s (by omega) (by omega) _).mono ?_
        rintro e w1 ⟨rfl, rfl⟩
        have hne := HNE.out
        clear HNE
        generalize k &&& s = z at *
        go_wp2_with fail
        go_round
        case rel => exact ⟨k + 1, by omega, by go_num, by rw [HY.out]; exact HC.out⟩
        case measure => simp [intOf]; omega
    · obtain rfl : k = s + 1 := by omega
      go_wp2_with fail
      go_ret
      exact ⟨ret_bool HC.out.symm, rfl⟩

def spTo (ns : List Nat) (s k : Nat) : Bool := (List.range k).any (crn ns s)
theorem spTo_no {ns : List Nat} {s k : Nat} (h : crn ns s k = false) : spTo ns s (k + 1) = spTo ns s k := by
  simp only [spTo, List.range_succ, List.any_append, List.any_cons, List.any_nil, Bool.or_false]
  rw [h, Bool.or_false]
theorem strg_yes {ns : List Nat} {s c : Nat} (h : crn ns s c = true) : strg ns s = true := strg_iff.2 ⟨c, crn_mem h, h⟩
theorem strg_no {m : Nat} {ns : List Nat} {s : Nat} (hc : Cls m ns) (h : spTo ns s (2 ^ m) = false) : strg ns s = false := by
  rw [← Bool.not_eq_true]
  intro hh
  obtain ⟨c, hm, hr⟩ := strg_iff.1 hh
  rw [← Bool.not_eq_true] at h
  apply h
  simp only [spTo, List.any_eq_true, List.mem_range]
  exact ⟨c, hc.lt c hm, hr⟩



end Go.Proofs.YtnmilfkocheaiaaGreatDoor
