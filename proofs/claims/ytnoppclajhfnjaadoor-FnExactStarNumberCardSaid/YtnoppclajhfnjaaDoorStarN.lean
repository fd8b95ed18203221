/- StarNumber, the program's. Conditions: Sets is a slice of ints; the table setsWith is laid. -/
import Derived.Test.YtnoppclajhfnjaaDoorStarI
namespace Go.Proofs.YtnoppclajhfnjaaDoor
open Go.RowKit

/-- what StarNumber answers -/
def snB (n : Int) (zs : List Int) : Int := if vldB n zs = true then starM n.toNat (zs.map Int.toNat) else -1
theorem snB_in {m : Nat} {ns : List Nat} (hv : vldB (m : Int) (toI ns) = true) : snB (m : Int) (toI ns) = starM m ns := by rw [snB, if_pos hv, Int.toNat_natCast, toNat_toI]
theorem snB_bad {n : Int} {zs : List Int} (hv : vldB n zs = false) : snB n zs = -1 := by rw [snB, hv]; rfl

set_option maxRecDepth 100000 in
set_option maxHeartbeats 3200000 in
theorem implStarNumber (n : Int) (v : Value) (zs : List Int) (w : World) (h : Rd w v zs) (hsw : SW w) :
    Calls Tryd.prog 15 #[.agg #[.int .i64 n, v]] w fun e w' => e = .returned (.int .i64 (snB n zs)) ∧ Below w.heap.size w w' := by
  have H := Lib.hid h
  have HSW := Lib.hid hsw
  clear hsw
  have HV := Lib.hid (fun w0 h0 => implValid n v zs w0 h0)
  obtain ⟨a, b, off, cap, rfl, _, _, _⟩ := h
  by_cases hv : vldB n zs = true
  · obtain ⟨m, ns, rfl, rfl, hc⟩ := vldB_cls hv
    have hm := hc.pts
    have hw := wrap_pow m hm
    have HW := Lib.hid hw.1
    have hw2 := hw.2
    have HP := Lib.hid (show ((2 ^ m : Nat) : Int) = (2 : Int) ^ m by simp)
    have HE := Lib.hid (show snB (m : Int) (toI ns) = staN ns (2 ^ m) from snB_in hv)
    have HF := Lib.hid (fun w0 h0 => implFamilyOf (m : Int) (.slice a (toI ns).length cap) ns hc.lt32 w0 h0)
    have HX := Lib.hid (fun s (hs : s < 32) w0 h0 => implHasStar ns s hc.lt32 hc.asc hs w0 h0)
    have HST := Lib.hid (fun k => staN_step ns k)
    have H0 := Lib.hid (show staN ns 0 = -1 from rfl)
    rw [HE.out]
    rw [hv] at HV
    clear hw hv hc HE
    generalize staN ns = S at *
    generalize hsB ns = T at *
    generalize fm ns = F at *
    go_enter Tryd.func15, Tryd.ntmps15
    go_wp2_with fail
    refine (HV.out _ (H.out.below (by go_grown) (Nat.le_refl _))).mono ?_
    rintro e w1 ⟨rfl, hb⟩
    have B1 := Lib.hid ((Box.made (m : Int) (.slice a (toI ns).length cap) w _).next (by simp) hb)
    have hs1 : w.heap.size < w1.heap.size := by have := hb.size; simp at this; omega
    clear hb
    have c0 := B1.out.at0
    have c1 := B1.out.at1
    go_wp2_with fail
    refine (HF.out _ (H.out.below B1.out.below (Nat.le_refl _))).mono ?_
    rintro e w3 ⟨rfl, hb⟩
    have B3 := Lib.hid (B1.out.next hs1 hb)
    have hs3 : w.heap.size < w3.heap.size := by have := hb.size; omega
    clear hb c0 c1 B1
    have c0 := B3.out.at0
    go_wp2_with fail
    clear c0
    go_loopw [3, 15] (fun b i wr => ∃ j : Nat, (j : Int) ≤ wrap64 (2 ^ m) ∧ i = .int .i64 j ∧ b = .int .i64 (S j) ∧ Box m (.slice a (toI ns).length cap) w wr ∧ w.heap.size < wr.heap.size) (fun _ i _ => 40 - (intOf i).toNat)
    case atStart => exact ⟨0, by omega, rfl, by rw [H0.out], B3.out, hs3⟩
    case round =>
      obtain ⟨j, hj, rfl, rfl, hbx, hsz⟩ := hrel
      have BR := Lib.hid hbx
      clear hbx
      by_cases hlt : (j : Int) < wrap64 (2 ^ m)
      · have hj32 : j < 32 := by omega
        have HXj := Lib.hid (HX.out j hj32)
        have HSj := Lib.hid (fun w0 => implSizeOf j hj32 w0)
        have HN := Lib.hid (HST.out j)
        cases hT : T j with
        | false =>
          rw [hT] at HXj HN
          have HN2 := Lib.hid (show S (j + 1) = S j by rw [HN.out, if_neg (by simp)])
          clear hT HN HSj
          generalize S j = y at *
          go_wp2_with fail
          refine (HXj.out _ (HSW.out.next BR.out.below)).mono ?_
          rintro e w5 ⟨rfl, hb5⟩
          have B5 := Lib.hid (BR.out.next hsz hb5)
          have hz5 := hb5.size
          clear hb5
          go_wp2_with fail
          go_roundw
          case rel => exact ⟨j + 1, by omega, by go_num, by rw [HN2.out], B5.out, by omega⟩
          case measure => simp [intOf]; omega
        | true =>
          rw [hT] at HXj HN
          clear hT
          by_cases hlt2 : S j < (pc j : Int)
          · have HN2 := Lib.hid (show S (j + 1) = (pc j : Int) by rw [HN.out, if_pos ⟨rfl, hlt2⟩])
            clear HN
            generalize S j = y at *
            generalize pc j = c at *
            go_wp2_with fail
            refine (HXj.out _ (HSW.out.next BR.out.below)).mono ?_
            rintro e w5 ⟨rfl, hb5⟩
            have B5 := Lib.hid (BR.out.next hsz hb5)
            have hz5 := hb5.size
            clear hb5
            go_wp2_with fail
            refine (HSj.out _).mono ?_
            rintro e w6 ⟨rfl, rfl⟩
            go_wp2_with fail
            go_roundw
            case rel => exact ⟨j + 1, by omega, by go_num, by rw [HN2.out], B5.out, by omega⟩
            case measure => simp [intOf]; omega
          · have HN2 := Lib.hid (show S (j + 1) = S j by rw [HN.out, if_neg (fun h => hlt2 h.2)])
            clear HN
            generalize S j = y at *
            generalize pc j = c at *
            go_wp2_with fail
            refine (HXj.out _ (HSW.out.next BR.out.below)).mono ?_
            rintro e w5 ⟨rfl, hb5⟩
            have B5 := Lib.hid (BR.out.next hsz hb5)
            have hz5 := hb5.size
            clear hb5
            go_wp2_with fail
            refine (HSj.out _).mono ?_
            rintro e w6 ⟨rfl, rfl⟩
            go_wp2_with fail
            go_roundw
            case rel => exact ⟨j + 1, by omega, by go_num, by rw [HN2.out], B5.out, by omega⟩
            case measure => simp [intOf]; omega
      · have HJ := Lib.hid (show j = 2 ^ m by have := HW.out; have := HP.out; omega)
        go_wp2_with fail
        skip
        go_ret
        exact ⟨by rw [HJ.out]; rfl, BR.out.below⟩
  · rw [Bool.not_eq_true] at hv
    have HE := Lib.hid (snB_bad hv)
    rw [HE.out]
    rw [hv] at HV
    clear hv HE
    go_enter Tryd.func15, Tryd.ntmps15
    go_wp2_with fail
    refine (HV.out _ (H.out.below (by go_grown) (Nat.le_refl _))).mono ?_
    rintro e w1 ⟨rfl, hb⟩
    have B1 := Lib.hid ((Box.made n (.slice a zs.length cap) w _).next (by simp) hb)
    clear hb
    go_wp2_with fail
    go_ret
    exact ⟨rfl, B1.out.below⟩

end Go.Proofs.YtnoppclajhfnjaaDoor
