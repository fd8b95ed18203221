/- CoverRadius and NoiseSum, the program's. Conditions: Sets is a slice of ints. -/
import Derived.Test.YtpcjecahplglfabNrst
namespace Go.Proofs.Ytpcjecahplglfab
open Go.RowKit

theorem setB_lt {m s : Nat} (hs : s < 2 ^ m) : setB m (s : Int) = true := by
  have h2 : ((2 ^ m : Nat) : Int) = (2 : Int) ^ m := by simp
  simp [setB]
  omega

set_option maxRecDepth 100000 in
set_option maxHeartbeats 3200000 in
theorem implCoverRadius (n : Int) (v : Value) (zs : List Int) (w : World) (h : Rd w v zs) :
    Calls Try.prog 36 #[.agg #[.int .i64 n, v]] w fun e w' => e = .returned (.int .i64 (cvB n zs)) ∧ Below w.heap.size w w' := by
  have H := Lib.hid h
  have HV := Lib.hid (fun w h => implValid n v zs w h)
  have HN := Lib.hid (fun s w h => implNearestTo n v zs s w h)
  obtain ⟨a, b, off, cap, rfl, _, _, _⟩ := h
  by_cases hv : vldB n zs = true
  · obtain ⟨m, ns, rfl, rfl, hc⟩ := vldB_cls hv
    have hm := hc.pts
    have hw := wrap_pow m hm
    have HW := Lib.hid hw.1
    have hw2 := hw.2
    have HP := Lib.hid (show ((2 ^ m : Nat) : Int) = (2 : Int) ^ m by simp)
    have HV0 := Lib.hid hv
    rw [hv] at HV
    obtain ⟨T, hT⟩ : ∃ T : Nat → Int, T = fun j => if ns = [] then -1 else cvTo ns j := ⟨_, rfl⟩
    have HT0 := Lib.hid (show T 0 = -1 by rw [hT]; show (if ns = [] then (-1 : Int) else cvTo ns 0) = -1; split <;> rfl)
    have HTE := Lib.hid (show cvB (m : Int) (toI ns) = T (2 ^ m) by
      rw [hT]
      show _ = if ns = [] then (-1 : Int) else cvTo ns (2 ^ m)
      by_cases hn : ns = []
      · subst hn; rw [if_pos rfl]; exact cvB_nil
      · rw [if_neg hn]; exact cvB_in hv hn)
    have HTS := Lib.hid (fun (j : Nat) (hj : j < 2 ^ m) => show nrK (m : Int) (toI ns) (j : Int) = decide (ns ≠ []) ∧ T (j + 1) = (if ns ≠ [] ∧ T j < nrD (m : Int) (toI ns) (j : Int) then nrD (m : Int) (toI ns) (j : Int) else T j) by
      rw [hT]
      by_cases hn : ns = []
      · subst hn
        exact ⟨by rw [show toI [] = [] from rfl, nrK_nil]; rfl, by simp⟩
      · have hk := nrK_in hv (setB_lt hj) hn
        refine ⟨by rw [hk, decide_eq_true hn], ?_⟩
        rw [nrD_in hk]
        show (if ns = [] then (-1 : Int) else cvTo ns (j + 1)) = if ns ≠ [] ∧ (if ns = [] then (-1 : Int) else cvTo ns j) < fstM (dis j) ns then fstM (dis j) ns else (if ns = [] then (-1 : Int) else cvTo ns j)
        rw [if_neg hn, if_neg hn, cvTo]
        by_cases hq : cvTo ns j < fstM (dis j) ns
        · rw [if_pos hq, if_pos ⟨hn, hq⟩]
        · rw [if_neg hq, if_neg (fun h => hq h.2)])
    rw [HTE.out]
    clear hv hc hw hT
    go_enter Try.func36, Try.ntmps36
    go_wp2_with fail
    refine (HV.out _ (H.out.below (k := w.heap.size) (by go_grown) (Nat.le_refl _))).mono ?_
    rintro e w1 ⟨rfl, hb⟩
    have B1 := Lib.hid ((Box.made (m : Int) (.slice a (toI ns).length cap) w _).next (by simp) hb)
    have hs1 : w.heap.size < w1.heap.size := by have := hb.size; simp at this; omega
    clear hb
    have c0 := B1.out.at0
    go_wp2_with fail
    clear c0
    go_loopw [3, 15] (fun o i wr => ∃ j : Nat, (j : Int) ≤ wrap64 (2 ^ m) ∧ i = .int .i64 j ∧ o = .int .i64 (T j) ∧ Box (m : Int) (.slice a (toI ns).length cap) w wr ∧ w.heap.size < wr.heap.size) (fun _ i _ => 40 - (intOf i).toNat)
    case atStart => exact ⟨0, by omega, rfl, by rw [HT0.out], B1.out, hs1⟩
    case round =>
      obtain ⟨j, hj, rfl, rfl, hbx, hsz⟩ := hrel
      have HBX := Lib.hid hbx
      clear hbx
      by_cases hlt : (j : Int) < wrap64 (2 ^ m)
      · have hj2 : j < 2 ^ m := by have := HW.out; have := HP.out; omega
        have HK := Lib.hid (HTS.out j hj2).1
        have HS := Lib.hid (HTS.out j hj2).2
        have HNj := Lib.hid (HN.out (j : Int))
        clear hj2
        generalize nrS (m : Int) (toI ns) (j : Int) = r0 at *
        generalize nrD (m : Int) (toI ns) (j : Int) = r1 at *
        generalize T j = o at *
        rw [HK.out] at HNj
        have c0 := HBX.out.at0
        have c1 := HBX.out.at1
        by_cases hn : ns = []
        · have HE := Lib.hid (HS.out.trans (if_neg (fun h => h.1 hn)))
          rw [show decide (ns ≠ []) = false from decide_eq_false (fun h => h hn)] at HNj
          clear hn
          go_wp2_with fail
          refine (HNj.out _ (H.out.below HBX.out.below (Nat.le_refl _))).mono ?_
          rintro e w2 ⟨rfl, hb2⟩
          have B2 := Lib.hid (HBX.out.next hsz hb2)
          have hs2 : w.heap.size < w2.heap.size := Nat.lt_of_lt_of_le hsz hb2.size
          clear hb2 c0 c1
          go_wp2_with fail
          go_roundw
          case rel => exact ⟨j + 1, by omega, by go_num, by rw [HE.out], B2.out, hs2⟩
          case measure => simp [intOf]; omega
        · rw [show decide (ns ≠ []) = true from decide_eq_true hn] at HNj
          by_cases hq : o < r1
          · have HE := Lib.hid (HS.out.trans (if_pos ⟨hn, hq⟩))
            clear hn
            go_wp2_with fail
            refine (HNj.out _ (H.out.below HBX.out.below (Nat.le_refl _))).mono ?_
            rintro e w2 ⟨rfl, hb2⟩
            have B2 := Lib.hid (HBX.out.next hsz hb2)
            have hs2 : w.heap.size < w2.heap.size := Nat.lt_of_lt_of_le hsz hb2.size
            clear hb2 c0 c1
            go_wp2_with fail
            go_roundw
            case rel => exact ⟨j + 1, by omega, by go_num, by rw [HE.out], B2.out, hs2⟩
            case measure => simp [intOf]; omega
          · have HE := Lib.hid (HS.out.trans (if_neg (fun h => hq h.2)))
            clear hn
            go_wp2_with fail
            refine (HNj.out _ (H.out.below HBX.out.below (Nat.le_refl _))).mono ?_
            rintro e w2 ⟨rfl, hb2⟩
            have B2 := Lib.hid (HBX.out.next hsz hb2)
            have hs2 : w.heap.size < w2.heap.size := Nat.lt_of_lt_of_le hsz hb2.size
            clear hb2 c0 c1
            go_wp2_with fail
            go_roundw
            case rel => exact ⟨j + 1, by omega, by go_num, by rw [HE.out], B2.out, hs2⟩
            case measure => simp [intOf]; omega
      · have hj2 : j = 2 ^ m := by have := HW.out; have := HP.out; omega
        have HJ := Lib.hid hj2
        clear hj2
        go_wp2_with fail
        go_ret
        exact ⟨ret_int (by rw [HJ.out]), HBX.out.below⟩
  · rw [Bool.not_eq_true] at hv
    rw [cvB_bad hv]
    rw [hv] at HV
    clear hv
    go_enter Try.func36, Try.ntmps36
    go_wp2_with fail
    refine (HV.out _ (H.out.below (k := w.heap.size) (by go_grown) (Nat.le_refl _))).mono ?_
    rintro e w1 ⟨rfl, hb⟩
    have B1 := Lib.hid ((Box.made n (.slice a zs.length cap) w _).next (by simp) hb)
    clear hb
    go_wp2_with fail
    go_ret
    exact ⟨rfl, B1.out.below⟩


end Go.Proofs.Ytpcjecahplglfab
