/- CubesOf, the program's. Conditions: Sets is a slice of ints. -/
import Derived.Test.YtnmilfkocheaiaaGreatDoorAppP
import Derived.Test.YtnmilfkocheaiaaGreatDoorCubM
import Derived.Test.YtnmilfkocheaiaaGreatDoorZD
namespace Go.Proofs.YtnmilfkocheaiaaGreatDoor
open Go.RowKit

set_option maxHeartbeats 6400000 in
set_option maxRecDepth 100000 in
theorem implCubesOf (n : Int) (v : Value) (zs : List Int) (w : World) (h : Rd w v zs) :
    Calls Tryz.prog 109 #[.agg #[.int .i64 n, v]] w (RetPr (cubL n zs) w) := by
  have H := Lib.hid h
  obtain ⟨a, b, off, cap, rfl, h1, h3, h5⟩ := h
  by_cases hv : vldB n zs = true
  · obtain ⟨m, ns, rfl, rfl, hc⟩ := vldB_cls hv
    have hm := hc.pts
    rw [toI_length] at H h1 h3 h5 ⊢
    have HT := Lib.hid (cubL_in hv)
    have HV := Lib.hid hv
    have HC := Lib.hid hc
    have hl := hc.length
    have hw := wrap_pow m hm
    have HW := Lib.hid hw.1
    have hw2 := hw.2
    have HP := Lib.hid (show ((2 ^ m : Nat) : Int) = (2 : Int) ^ m by simp)
    have H5 := Lib.hid h5
    have H1 := Lib.hid h1
    have HLen := Lib.hid (fun j => cbTo_len (ns := ns) hm j)
    clear hv hc h1 h5 hw
    go_enter Tryz.func109, Tryz.ntmps109
    go_wp2_with fail
    refine (implValid m _ (toI ns) _ (H.out.below (k := w.heap.size) (by go_grown) (Nat.le_refl _))).mono ?_
    rintro e w1 ⟨rfl, hb⟩
    rw [HV.out]
    have B1 := Lib.hid ((Box.made m (.slice a ns.length cap) w _).next (by simp) hb)
    have hs1 : w.heap.size < w1.heap.size := by have := hb.size; simp at this; omega
    clear hb
    have c0 := B1.out.at0
    have c1 := B1.out.at1
    go_wp2_with fail
    refine (implKeysOf m _ ns _ (H.out.below B1.out.below (Nat.le_refl _)) hl HC.out.lt32).mono ?_
    rintro e w2 ⟨rfl, hk2, hb2⟩
    clear c0 c1
    have B2 := Lib.hid (B1.out.next hs1 hb2)
    have HK := Lib.hid hk2
    have hs2 : w.heap.size < w2.heap.size := by have := hb2.size; omega
    clear hb2 B1 hk2
    generalize w1.heap.size + 1 = mb at *
    have c0 := B2.out.at0
    have c1 := B2.out.at1
    go_wp2_with fail
    clear c0 c1
    go_loopw [16, 4] (fun i o wr => ∃ (j : Nat) (a' : Option Addr) (c' : Nat), j ≤ ns.length ∧ i = .int .i64 j ∧ o = .slice a' (cbTo ns m j).length c' ∧ PrS w2.heap.size wr (.slice a' (cbTo ns m j).length c') (cbTo ns m j) ∧ Below w2.heap.size w2 wr) (fun i _ _ => ns.length - (intOf i).toNat)
    case atStart => exact ⟨0, none, 0, Nat.zero_le _, rfl, rfl, PrS.nil _ _, Below.refl _ _⟩
    case round =>
      obtain ⟨j, a', c', hj, rfl, rfl, hin, hbe⟩ := hrel
      have HIN := Lib.hid hin
      have HBE := Lib.hid hbe
      have hzr := hbe.size
      have B3 := Lib.hid (B2.out.next hs2 hbe)
      clear hin hbe
      have c0 := B3.out.at0
      have c1 := B3.out.at1
      by_cases hlt : j < ns.length
      · obtain ⟨rfl, hbl⟩ := H1.out (by omega)
        have hx := (B3.out.below.cell (p := ⟨b, off + j, none⟩) hbl).trans (H5.out j hlt)
        rw [toI_getD] at hx
        have hx32 := HC.out.lt32 _ (getD_of_lt hlt)
        have HS := Lib.hid (cbTo_succ (m := m) hlt)
        have hel := HLen.out j
        generalize ns.getD j 0 = x at *
        generalize cbTo ns m j = E at *
        go_wp2_with fail
        clear c0 c1
        go_loopw [23, 4] (fun i o wq => ∃ (k : Nat) (a' : Option Addr) (c' : Nat), (k : Int) ≤ wrap64 (2 ^ m) ∧ i = .int .i64 k ∧ o = .slice a' (E ++ cbIn ns x k).length c' ∧ PrS w2.heap.size wq (.slice a' (E ++ cbIn ns x k).length c') (E ++ cbIn ns x k) ∧ Below w2.heap.size w2 wq) (fun i _ _ => 40 - (intOf i).toNat)
        case atStart =>
          refine ⟨0, a', c', by omega, rfl, ?_, ?_, HBE.out⟩
          · rw [show cbIn ns x 0 = [] from rfl, List.append_nil]
          · rw [show cbIn ns x 0 = [] from rfl, List.append_nil]; exact HIN.out
        case round =>
          obtain ⟨k, a2, c2, hk, rfl, rfl, hin2, hbf⟩ := hrel
          have HIN2 := Lib.hid hin2
          have HBF := Lib.hid hbf
          have hzq := hbf.size
          clear hin2 hbf HIN
          by_cases hklt : (k : Int) < wrap64 (2 ^ m)
          · have hk32 : k < 32 := by omega
            have hand := i64_and x k (by omega) (by omega)
            have hil := cbIn_len ns x k
            have HQ := Lib.hid (fun w h => implHasCubeAt mb 32 (fun x => decide (x ∈ ns)) x k hx32 hk32 w h)
            have hcy : crn ns k x = true → E ++ cbIn ns x (k + 1) = E ++ cbIn ns x k ++ [((x : Int), (k : Int))] := fun h => by rw [cbIn_yes h, List.append_assoc]
            have hcn : crn ns k x = false → E ++ cbIn ns x (k + 1) = E ++ cbIn ns x k := fun h => by rw [cbIn_no h]
            rw [crn] at hcy hcn
            have HLE := Lib.hid (show (E ++ cbIn ns x k).length ≤ 1000000 by rw [List.length_append]; omega)
            generalize E ++ cbIn ns x k = F at *
            have HKr := Lib.hid (HK.out.below HBF.out HK.out.lt)
            generalize cubTo (fun x => decide (x ∈ ns)) x k (k + 1) = cc at *
            by_cases hxk : x &&& k = 0
            · have hxI : ((x &&& k : Nat) : Int) = 0 := by rw [hxk]; rfl
              rw [hxk, show ((0 : Nat) == 0) = true from rfl, Bool.true_and] at hcy hcn
              go_wp2_with fail
              refine (HQ.out _ HKr.out).mono ?_
              rintro e w9 ⟨rfl, hw9⟩
              subst w9
              cases cc with
              | true =>
                have HCY := Lib.hid (hcy rfl)
                clear hcy hcn
                go_wp2_with (at_builtin; refine wpList_appP rfl (.tmp 36) (.tmp 40) rfl w2.heap.size _ F rfl (by exact HIN2.out.alloc _) _ (x : Int) (k : Int) rfl ⟨by rw [World.cell?_alloc_at _ _ _ _ rfl]; rfl, by rw [World.cell?_alloc_at _ _ _ _ rfl]; rfl⟩ (by exact HLE.out) (by simp; omega) ?_; intro a1 c1 w3 hin3 hb3 hg3; have H13 := Lib.hid (show Below w2.heap.size wr w3 from Below.trans ((Below.refl _ _).alloc (by omega) _) hb3); have I3 := Lib.hid hin3; clear hin3 hb3 hg3)
                go_roundw
                case rel => exact ⟨k + 1, a1, c1, by omega, by go_num, by rw [HCY.out, List.length_append]; rfl, by rw [HCY.out, List.length_append]; exact I3.out, HBF.out.trans H13.out⟩
                case measure => simp [intOf]; omega
              | false =>
                have HCN := Lib.hid (hcn rfl)
                go_wp2_with fail
                go_roundw
                case rel => exact ⟨k + 1, a2, c2, by omega, by go_num, by rw [HCN.out], by rw [HCN.out]; exact HIN2.out, HBF.out⟩
                case measure => simp [intOf]; omega
            · have hxI : ¬ ((x &&& k : Nat) : Int) = 0 := by omega
              have HCN := Lib.hid (hcn (by rw [beq_eq_false_iff_ne.2 hxk]; rfl))
              go_wp2_with fail
              go_roundw
              case rel => exact ⟨k + 1, a2, c2, by omega, by go_num, by rw [HCN.out], by rw [HCN.out]; exact HIN2.out, HBF.out⟩
              case measure => simp [intOf]; omega
          · have hk2 : k = 2 ^ m := by have := HW.out; have := HP.out; omega
            have HS2 := Lib.hid (show cbTo ns m (j + 1) = E ++ cbIn ns x k by rw [HS.out, hk2])
            clear hk2
            generalize E ++ cbIn ns x k = F at *
            go_wp2_with fail
            go_roundw
            case rel => exact ⟨j + 1, a2, c2, by omega, by go_num, by rw [HS2.out], by rw [HS2.out]; exact HIN2.out, HBF.out⟩
            case measure => simp [intOf]; omega
      · obtain rfl : j = ns.length := by omega
        go_wp2_with fail
        go_ret
        exact ⟨a', c', by rw [HT.out]; rfl, by rw [HT.out]; exact HIN.out.mono (by omega), B3.out.below⟩
  · have HT := Lib.hid (show cubL n zs = [] by rw [cubL, if_neg hv])
    rw [Bool.not_eq_true] at hv
    have HV := Lib.hid hv
    clear hv
    go_enter Tryz.func109, Tryz.ntmps109
    go_wp2_with fail
    refine (implValid n _ zs _ (H.out.below (k := w.heap.size) (by go_grown) (Nat.le_refl _))).mono ?_
    rintro e w1 ⟨rfl, hb⟩
    rw [HV.out]
    have B1 := Lib.hid ((Box.made n (.slice a zs.length cap) w _).next (by simp) hb)
    clear hb
    go_wp2_with fail
    go_ret
    rw [HT.out]
    exact ⟨none, 0, rfl, PrS.nil _ _, B1.out.below⟩

end Go.Proofs.YtnmilfkocheaiaaGreatDoor
