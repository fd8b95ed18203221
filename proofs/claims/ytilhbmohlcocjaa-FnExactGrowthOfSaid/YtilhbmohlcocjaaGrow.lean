/- GrowthOf, the program's and the model's. Conditions: Sets is a slice of ints. -/
import Derived.Test.YtilhbmohlcocjaaShatS
import Derived.Test.YtilhbmohlcocjaaList
import Derived.Test.YtilhbmohlcocjaaOnes
namespace Go.Proofs.Ytilhbmohlcocjaa
open Go.RowKit

/-- the greatest number of traces on the sets below k of size s -/
def growTo (ns : List Nat) (s : Int) : Nat → Int
  | 0 => 0
  | k + 1 => if (pc k : Int) = s then max (growTo ns s k) (tr ns k).length else growTo ns s k
theorem tr_len (ns : List Nat) (k : Nat) : (tr ns k).length ≤ 32 := by
  have := filt_le (fun p => ns.any (fun t => t &&& k == p)) 32
  simpa [tr, flt] using this
theorem growTo_bd (ns : List Nat) (s : Int) (k : Nat) : 0 ≤ growTo ns s k ∧ growTo ns s k ≤ 32 := by
  induction k with
  | zero => simp [growTo]
  | succ k ih =>
    have := tr_len ns k
    simp only [growTo]
    split <;> omega
theorem growTo_yes {ns : List Nat} {s : Int} {k : Nat} (h : (pc k : Int) = s) : growTo ns s (k + 1) = max (growTo ns s k) (tr ns k).length := by simp [growTo, h]
theorem growTo_no {ns : List Nat} {s : Int} {k : Nat} (h : ¬ (pc k : Int) = s) : growTo ns s (k + 1) = growTo ns s k := by simp [growTo, h]
def growB (n : Int) (zs : List Int) (s : Int) : Int :=
  if vldB n zs = true ∧ 0 ≤ s ∧ s ≤ n then growTo (zs.map Int.toNat) s (2 ^ n.toNat) else -1
theorem growB_bad {n : Int} {zs : List Int} {s : Int} (h : vldB n zs = false) : growB n zs s = -1 := by simp [growB, h]
theorem growB_out {n : Int} {zs : List Int} {s : Int} (h : ¬ (0 ≤ s ∧ s ≤ n)) : growB n zs s = -1 := by
  rw [growB, if_neg]; exact fun hh => h hh.2
theorem growB_in {n : Nat} {ns : List Nat} {s : Int} (h : vldB n (toI ns) = true) (h2 : 0 ≤ s ∧ s ≤ n) : growB n (toI ns) s = growTo ns s (2 ^ n) := by
  rw [growB, if_pos ⟨h, h2⟩, toNat_toI, Int.toNat_natCast]

set_option maxHeartbeats 1600000 in
set_option maxRecDepth 100000 in
theorem specGrowthOf (n : Int) (v : Value) (zs : List Int) (s : Int) (w : World) (h : Rd w v zs) :
    Calls Try.prog 33 #[.agg #[.int .i64 n, v], .int .i64 s] w fun e w' => e = .returned (.int .i64 (growB n zs s)) ∧ Below w.heap.size w w' := by
  have H := Lib.hid h
  obtain ⟨a, b, off, cap, rfl, _, _, _⟩ := h
  by_cases hv : vldB n zs = true
  · by_cases hr : 0 ≤ s ∧ s ≤ n
    · obtain ⟨m, ns, rfl, rfl, hc⟩ := vldB_cls hv
      have hm := hc.pts
      have hl := hc.length
      have HC := Lib.hid hc
      have hp32 := pow_le_32 hm
      have HP := Lib.hid (show ((2 ^ m : Nat) : Int) = (2 : Int) ^ m by simp)
      have HG := Lib.hid (growB_in hv hr)
      have HR := Lib.hid (show (decide ((0 : Int) ≤ s) && decide (s ≤ (m : Int))) = true by simp [hr.1, hr.2])
      have HV := Lib.hid hv
      clear hc hv
      generalize (2 ^ m : Nat) = M at *
      go_enter Try.func33, Try.ntmps33
      go_wp2_with fail
      refine (specValid m _ (toI ns) _ (H.out.below (k := w.heap.size) (by go_grown) (Nat.le_refl _))).mono ?_
      rintro e w1 ⟨rfl, hb⟩
      rw [HV.out]
      have B1 := Lib.hid ((Box.made m (.slice a (toI ns).length cap) w _).next (by simp) hb)
      have hs1 : w.heap.size < w1.heap.size := by have := hb.size; simp at this; omega
      clear hb
      have c0 := B1.out.at0
      have c1 := B1.out.at1
      go_wp2_with fail
      refine (specInRange _ _ _ _).mono ?_
      rintro e w2 ⟨rfl, rfl⟩
      rw [HR.out]
      go_wp2_with fail
      clear c0 c1
      go_loopw [5, 6] (fun o i wr => ∃ k : Nat, k ≤ M ∧ i = .int .i64 k ∧ o = .int .i64 (growTo ns s k) ∧ Box m (.slice a (toI ns).length cap) w wr ∧ w.heap.size < wr.heap.size) (fun _ i _ => 40 - (intOf i).toNat)
      case atStart => exact ⟨0, by omega, rfl, rfl, B1.out, hs1⟩
      case round =>
        obtain ⟨k, hk, rfl, rfl, hbx, hsz⟩ := hrel
        have HBX := Lib.hid hbx
        clear hbx
        have c0 := HBX.out.at0
        have c1 := HBX.out.at1
        go_wp2_with fail
        refine (power_q m hm _).mono ?_
        rintro e w' ⟨rfl, rfl⟩
        rw [← HP.out]
        by_cases hlt : k < M
        · have hgb := growTo_bd ns s k
          by_cases hp : (pc k : Int) = s
          · have HF := Lib.hid (growTo_yes (ns := ns) hp)
            have htl := tr_len ns k
            have HTL := Lib.hid (toI_length (tr ns k))
            generalize growTo ns s k = o at *
            go_wp2_with fail
            refine (specSize k (by omega) _).mono ?_
            rintro e w' ⟨rfl, rfl⟩
            generalize pc k = q at *
            go_wp2_with fail
            refine (specTrace _ ns k _ HC.out.lt32 (by omega) (by omega) (H.out.below HBX.out.below (Nat.le_refl _))).mono ?_
            rintro e w3 ⟨a3, c3, rfl, hin3, hb3⟩
            rw [HTL.out]
            clear hin3
            have B3 := Lib.hid (HBX.out.next hsz hb3)
            have hs3 : w.heap.size < w3.heap.size := Nat.lt_of_lt_of_le hsz hb3.size
            clear hb3 c0 c1
            generalize (tr ns k).length = l at *
            by_cases hd : o < (l : Int)
            · have HM := Lib.hid (show max o (l : Int) = l by omega)
              go_wp2_with fail
              go_roundw
              case rel => exact ⟨k + 1, by omega, by go_num, by first | rw [HF.out, HM.out, if_pos hd] | rw [HF.out, HM.out, if_neg hd] | rw [HF.out, HM.out], B3.out, hs3⟩
              case measure => simp [intOf]; omega
            · have HM := Lib.hid (show max o (l : Int) = o by omega)
              go_wp2_with fail
              go_roundw
              case rel => exact ⟨k + 1, by omega, by go_num, by first | rw [HF.out, HM.out, if_pos hd] | rw [HF.out, HM.out, if_neg hd] | rw [HF.out, HM.out], B3.out, hs3⟩
              case measure => simp [intOf]; omega
          · have HF := Lib.hid (growTo_no (ns := ns) hp)
            generalize growTo ns s k = o at *
            go_wp2_with fail
            refine (specSize k (by omega) _).mono ?_
            rintro e w' ⟨rfl, rfl⟩
            generalize pc k = q at *
            go_wp2_with fail
            go_roundw
            case rel => exact ⟨k + 1, by omega, by go_num, by rw [HF.out], HBX.out, hsz⟩
            case measure => simp [intOf]; omega
        · obtain rfl : k = M := by omega
          go_wp2_with fail
          go_ret
          exact ⟨ret_int HG.out.symm, HBX.out.below⟩
    · have HR := Lib.hid (show (decide ((0 : Int) ≤ s) && decide (s ≤ n)) = false by
        by_cases h0 : (0 : Int) ≤ s
        · simp [h0]; omega
        · simp [h0])
      have HT := Lib.hid (growB_out (zs := zs) hr)
      have HV := Lib.hid hv
      clear hv hr
      go_enter Try.func33, Try.ntmps33
      go_wp2_with fail
      refine (specValid n _ zs _ (H.out.below (k := w.heap.size) (by go_grown) (Nat.le_refl _))).mono ?_
      rintro e w1 ⟨rfl, hb⟩
      rw [HV.out]
      have B1 := Lib.hid ((Box.made n (.slice a zs.length cap) w _).next (by simp) hb)
      clear hb
      have c0 := B1.out.at0
      have c1 := B1.out.at1
      go_wp2_with fail
      refine (specInRange _ _ _ _).mono ?_
      rintro e w2 ⟨rfl, rfl⟩
      rw [HR.out]
      go_wp2_with fail
      go_ret
      exact ⟨ret_int HT.out.symm, B1.out.below⟩
  · rw [Bool.not_eq_true] at hv
    have HT := Lib.hid (growB_bad (s := s) hv)
    have HV := Lib.hid hv
    clear hv
    go_enter Try.func33, Try.ntmps33
    go_wp2_with fail
    refine (specValid n _ zs _ (H.out.below (k := w.heap.size) (by go_grown) (Nat.le_refl _))).mono ?_
    rintro e w1 ⟨rfl, hb⟩
    rw [HV.out]
    have B1 := Lib.hid ((Box.made n (.slice a zs.length cap) w _).next (by simp) hb)
    clear hb
    go_wp2_with fail
    go_ret
    exact ⟨ret_int HT.out.symm, B1.out.below⟩

set_option maxHeartbeats 1600000 in
set_option maxRecDepth 100000 in
theorem implGrowthOf (n : Int) (v : Value) (zs : List Int) (s : Int) (w : World) (h : Rd w v zs) :
    Calls Try.prog 34 #[.agg #[.int .i64 n, v], .int .i64 s] w fun e w' => e = .returned (.int .i64 (growB n zs s)) ∧ Below w.heap.size w w' := by
  have H := Lib.hid h
  obtain ⟨a, b, off, cap, rfl, _, _, _⟩ := h
  by_cases hv : vldB n zs = true
  · by_cases hr : 0 ≤ s ∧ s ≤ n
    · obtain ⟨m, ns, rfl, rfl, hc⟩ := vldB_cls hv
      have hm := hc.pts
      have hl := hc.length
      have hp32 := pow_le_32 hm
      have hw := wrap_pow m hm
      have HW := Lib.hid hw.1
      have hw2 := hw.2
      have HP := Lib.hid (show ((2 ^ m : Nat) : Int) = (2 : Int) ^ m by simp)
      have HG := Lib.hid (growB_in hv hr)
      have hr0 := hr.1
      have hr1 := hr.2
      have HB := Lib.hid (fun (t : Nat) (ht : setB m (t : Int) = true) => traceB_in hv ht)
      have HV := Lib.hid hv
      clear hc hv hw hr
      go_enter Try.func34, Try.ntmps34
      go_wp2_with fail
      refine (implValid m _ (toI ns) _ (H.out.below (k := w.heap.size) (by go_grown) (Nat.le_refl _))).mono ?_
      rintro e w1 ⟨rfl, hb⟩
      rw [HV.out]
      have B1 := Lib.hid ((Box.made m (.slice a (toI ns).length cap) w _).next (by simp) hb)
      have hs1 : w.heap.size < w1.heap.size := by have := hb.size; simp at this; omega
      clear hb
      have c0 := B1.out.at0
      have c1 := B1.out.at1
      go_wp2_with fail
      clear c0 c1
      go_loopw [5, 23] (fun o i wr => ∃ k : Nat, (k : Int) ≤ wrap64 (2 ^ m) ∧ i = .int .i64 k ∧ o = .int .i64 (growTo ns s k) ∧ Box m (.slice a (toI ns).length cap) w wr ∧ w.heap.size < wr.heap.size) (fun _ i _ => 40 - (intOf i).toNat)
      case atStart => exact ⟨0, by omega, rfl, rfl, B1.out, hs1⟩
      case round =>
        obtain ⟨k, hk, rfl, rfl, hbx, hsz⟩ := hrel
        have HBX := Lib.hid hbx
        clear hbx
        have c0 := HBX.out.at0
        have c1 := HBX.out.at1
        by_cases hlt : (k : Int) < wrap64 (2 ^ m)
        · have hsj : setB m (k : Int) = true := by have := HW.out; simp [setB]; omega
          have hgb := growTo_bd ns s k
          have hk32 : k < 32 := by omega
          have HQ := Lib.hid (HB.out k hsj)
          clear hsj
          by_cases hp : (pc k : Int) = s
          · have HF := Lib.hid (growTo_yes (ns := ns) hp)
            have htl := tr_len ns k
            have HTL := Lib.hid (toI_length (tr ns k))
            generalize growTo ns s k = o at *
            go_wp2_with fail
            refine (implSizeOf k hk32 _).mono ?_
            rintro e w' ⟨rfl, rfl⟩
            generalize pc k = q at *
            go_wp2_with fail
            refine (implTraceOf m _ (toI ns) (k : Int) _ (H.out.below HBX.out.below (Nat.le_refl _))).mono ?_
            rintro e w3 ⟨a3, c3, rfl, hin3, hb3⟩
            rw [HQ.out, HTL.out]
            clear hin3
            have B3 := Lib.hid (HBX.out.next hsz hb3)
            have hs3 : w.heap.size < w3.heap.size := Nat.lt_of_lt_of_le hsz hb3.size
            clear hb3 c0 c1
            generalize (tr ns k).length = l at *
            by_cases hd : o < (l : Int)
            · have HM := Lib.hid (show max o (l : Int) = l by omega)
              go_wp2_with fail
              go_roundw
              case rel => exact ⟨k + 1, by omega, by go_num, by first | rw [HF.out, HM.out, if_pos hd] | rw [HF.out, HM.out, if_neg hd] | rw [HF.out, HM.out], B3.out, hs3⟩
              case measure => simp [intOf]; omega
            · have HM := Lib.hid (show max o (l : Int) = o by omega)
              go_wp2_with fail
              go_roundw
              case rel => exact ⟨k + 1, by omega, by go_num, by first | rw [HF.out, HM.out, if_pos hd] | rw [HF.out, HM.out, if_neg hd] | rw [HF.out, HM.out], B3.out, hs3⟩
              case measure => simp [intOf]; omega
          · have HF := Lib.hid (growTo_no (ns := ns) hp)
            generalize growTo ns s k = o at *
            go_wp2_with fail
            refine (implSizeOf k hk32 _).mono ?_
            rintro e w' ⟨rfl, rfl⟩
            generalize pc k = q at *
            go_wp2_with fail
            go_roundw
            case rel => exact ⟨k + 1, by omega, by go_num, by rw [HF.out], HBX.out, hsz⟩
            case measure => simp [intOf]; omega
        · have hj2 : k = 2 ^ m := by have := HW.out; have := HP.out; omega
          have HJ := Lib.hid hj2
          clear hj2
          go_wp2_with fail
          go_ret
          exact ⟨ret_int (by rw [HG.out, HJ.out]), HBX.out.below⟩
    · have HT := Lib.hid (growB_out (zs := zs) hr)
      have HV := Lib.hid hv
      clear hv
      by_cases h0 : s < 0
      · clear hr
        go_enter Try.func34, Try.ntmps34
        go_wp2_with fail
        refine (implValid n _ zs _ (H.out.below (k := w.heap.size) (by go_grown) (Nat.le_refl _))).mono ?_
        rintro e w1 ⟨rfl, hb⟩
        rw [HV.out]
        have B1 := Lib.hid ((Box.made n (.slice a zs.length cap) w _).next (by simp) hb)
        clear hb
        have c0 := B1.out.at0
        have c1 := B1.out.at1
        go_wp2_with fail
        go_ret
        exact ⟨ret_int HT.out.symm, B1.out.below⟩
      · have h1 : n < s := by omega
        clear hr
        go_enter Try.func34, Try.ntmps34
        go_wp2_with fail
        refine (implValid n _ zs _ (H.out.below (k := w.heap.size) (by go_grown) (Nat.le_refl _))).mono ?_
        rintro e w1 ⟨rfl, hb⟩
        rw [HV.out]
        have B1 := Lib.hid ((Box.made n (.slice a zs.length cap) w _).next (by simp) hb)
        clear hb
        have c0 := B1.out.at0
        have c1 := B1.out.at1
        go_wp2_with fail
        go_ret
        exact ⟨ret_int HT.out.symm, B1.out.below⟩
  · rw [Bool.not_eq_true] at hv
    have HT := Lib.hid (growB_bad (s := s) hv)
    have HV := Lib.hid hv
    clear hv
    go_enter Try.func34, Try.ntmps34
    go_wp2_with fail
    refine (implValid n _ zs _ (H.out.below (k := w.heap.size) (by go_grown) (Nat.le_refl _))).mono ?_
    rintro e w1 ⟨rfl, hb⟩
    rw [HV.out]
    have B1 := Lib.hid ((Box.made n (.slice a zs.length cap) w _).next (by simp) hb)
    clear hb
    go_wp2_with fail
    go_ret
    exact ⟨ret_int HT.out.symm, B1.out.below⟩

end Go.Proofs.Ytilhbmohlcocjaa
