/- The model's cubeIn, strongly, IsStrong. Conditions: Sets is a slice of ints. -/
import Derived.Test.YtfnlfhgjmnjgaaaZD
import Derived.Test.YtfnlfhgjmnjgaaaZH
namespace Go.Proofs.Ytfnlfhgjmnjgaaa
open Go.RowKit

set_option maxRecDepth 100000 in
theorem add_or_fin : ∀ c a : Fin 32, (c : Nat) &&& (a : Nat) = 0 → (c : Nat) + a = c ||| a := by decide
theorem add_or {c a s : Nat} (hc : c < 32) (ha : a < 32) (h : c &&& s = 0) (h2 : a &&& s = a) : c + a = c ||| a := by
  refine add_or_fin ⟨c, hc⟩ ⟨a, ha⟩ ?_
  show c &&& a = 0
  rw [← h2, Nat.and_comm a s, ← Nat.and_assoc, h, Nat.zero_and]

set_option maxHeartbeats 800000 in
theorem specCubeIn (v : Value) (ns : List Nat) (c s : Nat) (hc : c < 32) (hs : s < 32) (h0 : c &&& s = 0) (w : World) (h : Rd w v (toI ns)) :
    Calls Try.prog 72 #[v, .int .i64 (c : Int), .int .i64 (s : Int)] w fun e w' => e = .returned (.bool (cubTo (fun x => decide (x ∈ ns)) c s (s + 1))) ∧ w' = w := by
  have H := Lib.hid h
  have H0 := Lib.hid h0
  clear h h0
  go_enter Try.func72, Try.ntmps72
  go_wp2_with fail
  go_loop [7] (fun i => ∃ k : Nat, k ≤ s + 1 ∧ i = .int .i64 k ∧ cubTo (fun x => decide (x ∈ ns)) c s k = true) (fun i => s + 1 - (intOf i).toNat)
  case atStart => exact ⟨0, Nat.zero_le _, rfl, rfl⟩
  case round =>
    obtain ⟨k, hk, rfl, hcu⟩ := hrel
    have HC := Lib.hid hcu
    clear hcu
    by_cases hlt : k < s + 1
    · by_cases he : k &&& s = k
      · have HE := Lib.hid he
        have HA := Lib.hid (add_or hc (by omega) H0.out he)
        have ho : c ||| k < 32 := Nat.or_lt_two_pow (n := 5) hc (by omega)
        have HQ := Lib.hid (hasB_nat ns (c + k))
        have HI := Lib.hid (specHasInt _ _ ((c + k : Nat) : Int) w H.out)
        have hcast : ((c + k : Nat) : Int) = (c : Int) + k := by omega
        rw [hcast] at HI HQ
        clear he hcast
        by_cases hq : decide (c ||| k ∈ ns) = true
        · have HY := Lib.hid (cubTo_yes (K := fun x => decide (x ∈ ns)) (s := s) hq)
          have HQ2 := Lib.hid (show hasB (toI ns) ((c : Int) + k) = true by rw [HQ.out, HA.out]; exact hq)
          clear hq
          go_wp2_with fail
          refine (specMeet k s (by omega) (by omega) _).mono ?_
          rintro e w1 ⟨rfl, rfl⟩
          rw [HE.out]
          go_wp2_with fail
          refine HI.out.mono ?_
          rintro e w1 ⟨rfl, rfl⟩
          rw [HQ2.out]
          go_wp2_with fail
          go_round
          case rel => exact ⟨k + 1, by omega, by go_num, by rw [HY.out]; exact HC.out⟩
          case measure => simp [intOf]; omega
        · rw [Bool.not_eq_true] at hq
          have HN := Lib.hid (cubTo_no (K := fun x => decide (x ∈ ns)) HE.out hq hlt)
          have HQ2 := Lib.hid (show hasB (toI ns) ((c : Int) + k) = false by rw [HQ.out, HA.out]; exact hq)
          clear hq
          go_wp2_with fail
          refine (specMeet k s (by omega) (by omega) _).mono ?_
          rintro e w1 ⟨rfl, rfl⟩
          rw [HE.out]
          go_wp2_with fail
          refine HI.out.mono ?_
          rintro e w1 ⟨rfl, rfl⟩
          rw [HQ2.out]
          go_wp2_with fail
          go_ret
          exact ⟨ret_bool HN.out.symm, rfl⟩
      · have HY := Lib.hid (cubTo_skip (K := fun x => decide (x ∈ ns)) (c := c) he)
        have HNE := Lib.hid (show ((k &&& s : Nat) : Int) ≠ (k : Int) by omega)
        clear he
        go_wp2_with fail
        refine (specMeet k s (by omega) (by omega) _).mono ?_
        rintro e w1 ⟨rfl, rfl⟩
        have hne := HNE.out
        clear HNE
        generalize k &&& s = z at *
        go_wp2_with fail
        go_round
        case rel => exact ⟨k + 1, by omega, by go_num, by rw [HY.out]; exact HC.out⟩
        case measure => simp [intOf]; omega
    · obtain rfl : k = s + 1 := by omega
      go_wp2_with fail
      go_ret
      exact ⟨ret_bool HC.out.symm, rfl⟩

def spTo (ns : List Nat) (s k : Nat) : Bool := (List.range k).any (crn ns s)
theorem spTo_no {ns : List Nat} {s k : Nat} (h : crn ns s k = false) : spTo ns s (k + 1) = spTo ns s k := by
  simp only [spTo, List.range_succ, List.any_append, List.any_cons, List.any_nil, Bool.or_false]
  rw [h, Bool.or_false]
theorem strg_yes {ns : List Nat} {s c : Nat} (h : crn ns s c = true) : strg ns s = true := strg_iff.2 ⟨c, crn_mem h, h⟩
theorem strg_no {m : Nat} {ns : List Nat} {s : Nat} (hc : Cls m ns) (h : spTo ns s (2 ^ m) = false) : strg ns s = false := by
  rw [← Bool.not_eq_true]
  intro hh
  obtain ⟨c, hm, hr⟩ := strg_iff.1 hh
  rw [← Bool.not_eq_true] at h
  apply h
  simp only [spTo, List.any_eq_true, List.mem_range]
  exact ⟨c, hc.lt c hm, hr⟩

set_option maxHeartbeats 1600000 in
set_option maxRecDepth 100000 in
theorem specStrongly (m : Nat) (v : Value) (ns : List Nat) (s : Nat) (w : World) (hc : Cls m ns) (hs : s < 32) (h : Rd w v (toI ns)) :
    Calls Try.prog 61 #[.agg #[.int .i64 m, v], .int .i64 (s : Int)] w fun e w' => e = .returned (.bool (strg ns s)) ∧ Below w.heap.size w w' := by
  have H := Lib.hid h
  obtain ⟨a, b, off, cap, rfl, _, _, _⟩ := h
  have hm := hc.pts
  have hp32 := pow_le_32 hm
  have HC := Lib.hid hc
  have HP := Lib.hid (show ((2 ^ m : Nat) : Int) = (2 : Int) ^ m by simp)
  have HN := Lib.hid (fun h => strg_no (s := s) hc h)
  clear hc
  generalize (2 ^ m : Nat) = M at *
  have B1 := Lib.hid (Box.made m (.slice a (toI ns).length cap) w 25)
  have c0 := B1.out.at0
  have c1 := B1.out.at1
  go_enter Try.func61, Try.ntmps61
  go_wp2_with fail
  generalize w.alloc (Obj.cells #[.int .i64 (m : Int), .slice a (toI ns).length cap] 25) = w1 at *
  have HR := Lib.hid (H.out.below B1.out.below (Nat.le_refl _))
  go_loop [5] (fun i => ∃ k : Nat, k ≤ M ∧ i = .int .i64 k ∧ spTo ns s k = false) (fun i => M - (intOf i).toNat)
  case atStart => exact ⟨0, Nat.zero_le _, rfl, rfl⟩
  case round =>
    obtain ⟨k, hk, rfl, hst⟩ := hrel
    have HS := Lib.hid hst
    clear hst
    go_wp2_with fail
    refine (power_q m hm _).mono ?_
    rintro e w' ⟨rfl, rfl⟩
    rw [← HP.out]
    by_cases hlt : k < M
    · by_cases he : k &&& s = 0
      · have HE := Lib.hid he
        have HR2 := Lib.hid (show crn ns s k = cubTo (fun y => decide (y ∈ ns)) k s (s + 1) by simp [crn, he])
        have HCU := Lib.hid (specCubeIn _ ns k s (by omega) hs he _ HR.out)
        clear he
        generalize cubTo (fun y => decide (y ∈ ns)) k s (s + 1) = r at *
        by_cases hr : r = true
        · subst hr
          go_wp2_with fail
          refine (specMeet k s (by omega) (by omega) _).mono ?_
          rintro e w2 ⟨rfl, rfl⟩
          rw [HE.out]
          go_wp2_with fail
          refine HCU.out.mono ?_
          rintro e w2 ⟨rfl, rfl⟩
          go_wp2_with fail
          go_ret
          exact ⟨ret_bool (by rw [strg_yes HR2.out]), B1.out.below⟩
        · rw [Bool.not_eq_true] at hr
          subst hr
          go_wp2_with fail
          refine (specMeet k s (by omega) (by omega) _).mono ?_
          rintro e w2 ⟨rfl, rfl⟩
          rw [HE.out]
          go_wp2_with fail
          refine HCU.out.mono ?_
          rintro e w2 ⟨rfl, rfl⟩
          go_wp2_with fail
          go_round
          case rel => exact ⟨k + 1, by omega, by go_num, by rw [spTo_no HR2.out]; exact HS.out⟩
          case measure => simp [intOf]; omega
      · have HR2 := Lib.hid (show crn ns s k = false by simp [crn, he])
        have HNE := Lib.hid (show ((k &&& s : Nat) : Int) ≠ 0 by omega)
        clear he
        go_wp2_with fail
        refine (specMeet k s (by omega) (by omega) _).mono ?_
        rintro e w2 ⟨rfl, rfl⟩
        have hne := HNE.out
        clear HNE
        generalize k &&& s = z at *
        go_wp2_with fail
        go_round
        case rel => exact ⟨k + 1, by omega, by go_num, by rw [spTo_no HR2.out]; exact HS.out⟩
        case measure => simp [intOf]; omega
    · obtain rfl : k = M := by omega
      go_wp2_with fail
      go_ret
      exact ⟨ret_bool (by rw [HN.out HS.out]), B1.out.below⟩

set_option maxHeartbeats 800000 in
theorem specIsStrong (n : Int) (v : Value) (zs : List Int) (s : Int) (w : World) (h : Rd w v zs) :
    Calls Try.prog 37 #[.agg #[.int .i64 n, v], .int .i64 s] w fun e w' => e = .returned (.bool (strB n zs s)) ∧ Below w.heap.size w w' := by
  have H := Lib.hid h
  obtain ⟨a, b, off, cap, rfl, _, _, _⟩ := h
  by_cases hv : vldB n zs = true
  · obtain ⟨m, ns, rfl, rfl, hc⟩ := vldB_cls hv
    have hm := hc.pts
    have hl := hc.length
    have HC := Lib.hid hc
    by_cases hs : setB m s = true
    · obtain ⟨t, rfl, ht, ht32⟩ := setB_nat hm hs
      have HT := Lib.hid (strB_in hv hs)
      have HS := Lib.hid hs
      have HV := Lib.hid hv
      clear hs hv hc
      go_enter Try.func37, Try.ntmps37
      go_wp2_with fail
      refine (specValid m _ (toI ns) _ (H.out.below (k := w.heap.size) (by go_grown) (Nat.le_refl _))).mono ?_
      rintro e w1 ⟨rfl, hb⟩
      rw [HV.out]
      have B1 := Lib.hid ((Box.made m (.slice a (toI ns).length cap) w _).next (by simp) hb)
      have hs1 : w.heap.size < w1.heap.size := by have := hb.size; simp at this; omega
      clear hb
      have c0 := B1.out.at0
      have c1 := B1.out.at1
      go_wp2_with fail
      refine (specValidSet m hm _ _ _).mono ?_
      rintro e w2 ⟨rfl, hb2⟩
      rw [HS.out]
      clear c0 c1
      have B2 := Lib.hid (B1.out.next hs1 hb2)
      have hs2 : w.heap.size < w2.heap.size := Nat.lt_of_lt_of_le hs1 hb2.size
      clear hb2 B1
      have c0 := B2.out.at0
      have c1 := B2.out.at1
      go_wp2_with fail
      refine (specStrongly m _ ns t _ HC.out ht32 (H.out.below B2.out.below (Nat.le_refl _))).mono ?_
      rintro e w3 ⟨rfl, hb3⟩
      have B3 := Lib.hid (B2.out.next hs2 hb3)
      clear hb3 B2 c0 c1
      generalize hr : strg ns t = r at *
      clear hr
      go_wp2_with fail
      go_ret
      exact ⟨ret_bool (by rw [HT.out]), B3.out.below⟩
    · rw [Bool.not_eq_true] at hs
      have HT := Lib.hid (strB_bad (n := m) (zs := toI ns) (s := s) (by simp [inB, hs]))
      have HS := Lib.hid hs
      have HV := Lib.hid hv
      clear hs hv hc
      go_enter Try.func37, Try.ntmps37
      go_wp2_with fail
      refine (specValid m _ (toI ns) _ (H.out.below (k := w.heap.size) (by go_grown) (Nat.le_refl _))).mono ?_
      rintro e w1 ⟨rfl, hb⟩
      rw [HV.out]
      have B1 := Lib.hid ((Box.made m (.slice a (toI ns).length cap) w _).next (by simp) hb)
      have hs1 : w.heap.size < w1.heap.size := by have := hb.size; simp at this; omega
      clear hb
      have c0 := B1.out.at0
      have c1 := B1.out.at1
      go_wp2_with fail
      refine (specValidSet m hm _ _ _).mono ?_
      rintro e w2 ⟨rfl, hb2⟩
      rw [HS.out]
      clear c0 c1
      have B2 := Lib.hid (B1.out.next hs1 hb2)
      clear hb2 B1
      go_wp2_with fail
      go_ret
      exact ⟨ret_bool HT.out.symm, B2.out.below⟩
  · rw [Bool.not_eq_true] at hv
    have HT := Lib.hid (strB_bad (n := n) (zs := zs) (s := s) (by simp [inB, hv]))
    have HV := Lib.hid hv
    clear hv
    go_enter Try.func37, Try.ntmps37
    go_wp2_with fail
    refine (specValid n _ zs _ (H.out.below (k := w.heap.size) (by go_grown) (Nat.le_refl _))).mono ?_
    rintro e w1 ⟨rfl, hb⟩
    rw [HV.out]
    have B1 := Lib.hid ((Box.made n (.slice a zs.length cap) w _).next (by simp) hb)
    clear hb
    go_wp2_with fail
    go_ret
    exact ⟨ret_bool HT.out.symm, B1.out.below⟩

end Go.Proofs.Ytfnlfhgjmnjgaaa
