/- RecursiveDimension, the model's. Conditions: Sets is a slice of ints. -/
import Derived.Test.YtnoppclajhfnjaaDoorEsy
import Derived.Test.YtnoppclajhfnjaaDoorLayP
namespace Go.Proofs.YtnoppclajhfnjaaDoor
open Go.RowKit

/-- what RecursiveDimension answers -/
def rdB (n : Int) (zs : List Int) : Int := if vldB n zs = true then rdM n.toNat (zs.map Int.toNat) else -1
theorem rdB_in {m : Nat} {ns : List Nat} (hv : vldB (m : Int) (toI ns) = true) : rdB (m : Int) (toI ns) = rdM m ns := by rw [rdB, if_pos hv, Int.toNat_natCast, toNat_toI]
theorem rdB_bad {n : Int} {zs : List Int} (hv : vldB n zs = false) : rdB n zs = -1 := by rw [rdB, hv]; rfl
def slen : Value → Nat
  | .slice _ n _ => n
  | _ => 0

set_option maxRecDepth 100000 in
set_option maxHeartbeats 6400000 in
theorem specRecursive (m : Nat) (v : Value) (ns : List Nat) (w : World) (hc : Cls m ns) (h : Rd w v (toI ns)) :
    Calls Tryd.prog 86 #[v, .int .i64 (m : Int)] w fun e w' => e = .returned (.int .i64 (rdM m ns)) ∧ Below w.heap.size w w' := by
  have H := Lib.hid h
  have HC := Lib.hid hc
  obtain ⟨a, b, off, cap, rfl, _, _, _⟩ := h
  rw [toI_length] at H ⊢
  clear hc
  go_enter Tryd.func86, Tryd.ntmps86
  go_wp2_with fail
  go_loopw [0, 5] (fun s o wr => ∃ (cur : List Nat) (P : List (List Nat × List Nat)) (a' : Option Addr) (c' : Nat), s = .slice a' cur.length c' ∧ o = .int .i64 (rdS m (-1) P) ∧ Rd wr (.slice a' cur.length c') (toI cur) ∧ Cls m cur ∧ lys ns = P ++ lys cur ∧ Below w.heap.size w wr) (fun s _ _ => slen s)
  case atStart => exact ⟨ns, [], a, cap, rfl, rfl, H.out, HC.out, rfl, Below.refl _ _⟩
  case round =>
    obtain ⟨cur, P, a', c', rfl, rfl, hrd, hcc, hl, hbe⟩ := hrel
    have R := Lib.hid hrd
    have HCC := Lib.hid hcc
    have HL := Lib.hid hl
    have BE := Lib.hid hbe
    have hzr := hbe.size
    clear hrd hl hbe
    by_cases hne : cur.length = 0
    · have HE := Lib.hid (show rdM m ns = rdS m (-1) P by
        rw [rdM, HL.out, List.eq_nil_of_length_eq_zero hne, lys_nil, List.append_nil])
      clear hcc
      rw [hne]
      go_wp2_with fail
      go_ret
      exact ⟨by rw [HE.out]; rfl, BE.out⟩
    · have hne2 : cur ≠ [] := fun e => hne (by rw [e]; rfl)
      have hpos : (0 : Int) < (cur.length : Int) := by omega
      have HEf := Lib.hid (fun v w0 h0 => specEfforts m v cur w0 hcc h0)
      have HEz := Lib.hid (fun v w0 h0 => specEasiest m v cur w0 hcc h0)
      have HV := Lib.hid (show sTo (tns m cur) (tns m cur).length = ezL m cur by rw [ezL, tns_len])
      have HSn := Lib.hid (rdS_snoc m (-1) P (lay cur, cur))
      have HLn := Lib.hid (show lys ns = (P ++ [(lay cur, cur)]) ++ lys (rst cur) by rw [HL.out, lys_cons hne2]; simp)
      have HCr := Lib.hid (rst_cls hcc)
      have hml := rst_len hne2
      dsimp only at HSn
      clear hcc hne hne2
      generalize tns m cur = vs at *
      generalize ezL m cur = y at *
      by_cases hlt : rdS m (-1) P < y
      · have HS2 := Lib.hid (HSn.out.trans (if_pos hlt))
        clear HSn
        generalize rdS m (-1) P = x at *
        go_wp2_with fail
        refine (HEf.out _ _ R.out).mono ?_
        rintro e w1 ⟨a1, c1, rfl, hin, hb⟩
        have HM := Lib.hid (specSmallest _ vs w1 hin.rd)
        rw [HV.out] at HM
        have B1 := Lib.hid (BE.out.trans (hb.mono hzr))
        have R1 := Lib.hid (R.out.below hb (Nat.le_refl _))
        clear hin hb
        go_wp2_with fail
        refine HM.out.mono ?_
        rintro e w2 ⟨rfl, rfl⟩
        clear HM
        go_wp2_with fail
        refine (HEz.out _ _ R1.out).mono ?_
        rintro e w3 ⟨g1, k1, g2, k2, rfl, hia, hib, hne, hb3⟩
        have R3 := Lib.hid hib.rd
        have B3 := Lib.hid (B1.out.trans (hb3.mono B1.out.size))
        clear hia hib hne hb3
        go_wp2_with fail
        go_roundw
        case rel => exact ⟨rst cur, P ++ [(lay cur, cur)], _, _, rfl, by rw [HS2.out], R3.out, HCr.out, HLn.out, B3.out⟩
        case measure => exact hml
      · have HS2 := Lib.hid (HSn.out.trans (if_neg hlt))
        clear HSn
        generalize rdS m (-1) P = x at *
        go_wp2_with fail
        refine (HEf.out _ _ R.out).mono ?_
        rintro e w1 ⟨a1, c1, rfl, hin, hb⟩
        have HM := Lib.hid (specSmallest _ vs w1 hin.rd)
        rw [HV.out] at HM
        have B1 := Lib.hid (BE.out.trans (hb.mono hzr))
        have R1 := Lib.hid (R.out.below hb (Nat.le_refl _))
        clear hin hb
        go_wp2_with fail
        refine HM.out.mono ?_
        rintro e w2 ⟨rfl, rfl⟩
        clear HM
        go_wp2_with fail
        refine (HEz.out _ _ R1.out).mono ?_
        rintro e w3 ⟨g1, k1, g2, k2, rfl, hia, hib, hne, hb3⟩
        have R3 := Lib.hid hib.rd
        have B3 := Lib.hid (B1.out.trans (hb3.mono B1.out.size))
        clear hia hib hne hb3
        go_wp2_with fail
        go_roundw
        case rel => exact ⟨rst cur, P ++ [(lay cur, cur)], _, _, rfl, by rw [HS2.out], R3.out, HCr.out, HLn.out, B3.out⟩
        case measure => exact hml

set_option maxRecDepth 100000 in
set_option maxHeartbeats 1600000 in
theorem specRecursiveDimension (n : Int) (v : Value) (zs : List Int) (w : World) (h : Rd w v zs) :
    Calls Tryd.prog 41 #[.agg #[.int .i64 n, v]] w fun e w' => e = .returned (.int .i64 (rdB n zs)) ∧ Below w.heap.size w w' := by
  have H := Lib.hid h
  obtain ⟨a, b, off, cap, rfl, _, _, _⟩ := h
  have HV := Lib.hid (fun w0 h0 => specValid n (.slice a zs.length cap) zs w0 h0)
  by_cases hv : vldB n zs = true
  · obtain ⟨m, ns, rfl, rfl, hc⟩ := vldB_cls hv
    have HE := Lib.hid (fun w0 h0 => specRecursive m (.slice a (toI ns).length cap) ns w0 hc h0)
    have HD := Lib.hid (rdB_in hv)
    rw [HD.out]
    rw [hv] at HV
    clear hv hc HD
    generalize rdM m ns = x at *
    go_enter Tryd.func41, Tryd.ntmps41
    go_wp2_with fail
    refine (HV.out _ (H.out.below (by go_grown) (Nat.le_refl _))).mono ?_
    rintro e w1 ⟨rfl, hb⟩
    have B1 := Lib.hid ((Box.made (m : Int) (.slice a (toI ns).length cap) w _).next (by simp) hb)
    clear hb
    have c0 := B1.out.at0
    have c1 := B1.out.at1
    go_wp2_with fail
    refine (HE.out _ (H.out.below B1.out.below (Nat.le_refl _))).mono ?_
    rintro e w2 ⟨rfl, hb⟩
    have HB := Lib.hid (B1.out.below.trans (hb.mono B1.out.below.size))
    clear hb
    go_wp2_with fail
    go_ret
    exact ⟨rfl, HB.out⟩
  · rw [Bool.not_eq_true] at hv
    have HD := Lib.hid (rdB_bad hv)
    rw [HD.out]
    rw [hv] at HV
    clear hv HD
    go_enter Tryd.func41, Tryd.ntmps41
    go_wp2_with fail
    refine (HV.out _ (H.out.below (by go_grown) (Nat.le_refl _))).mono ?_
    rintro e w1 ⟨rfl, hb⟩
    have B1 := Lib.hid ((Box.made n (.slice a zs.length cap) w _).next (by simp) hb)
    clear hb
    go_wp2_with fail
    go_ret
    exact ⟨rfl, B1.out.below⟩

end Go.Proofs.YtnoppclajhfnjaaDoor
