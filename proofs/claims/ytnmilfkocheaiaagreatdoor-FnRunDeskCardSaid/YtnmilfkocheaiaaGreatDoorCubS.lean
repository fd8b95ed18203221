/- CubesOf, the model's. Conditions: Sets is a slice of ints. -/
import Derived.Deep.Cut
import Derived.Test.YtnmilfkocheaiaaGreatDoorAppP
import Derived.Test.YtnmilfkocheaiaaGreatDoorCubM
import Derived.Test.YtnmilfkocheaiaaGreatDoorIsStrS
import Derived.Test.YtnmilfkocheaiaaGreatDoorZA
import Derived.Test.YtnmilfkocheaiaaGreatDoorZH
namespace Go.Proofs.YtnmilfkocheaiaaGreatDoor
open Go.RowKit

set_option maxHeartbeats 6400000 in
set_option maxRecDepth 100000 in
theorem specCubes (m : Nat) (v : Value) (ns : List Nat) (w : World) (hc : Cls m ns) (h : Rd w v (toI ns)) :
    Calls Tryz.prog 57 #[.agg #[.int .i64 m, v]] w (RetPr (cbTo ns m ns.length) w) := by
  have H := Lib.hid h
  obtain ⟨a, b, off, cap, rfl, h1, h3, h5⟩ := h
  have hm := hc.pts
  rw [toI_length] at H h1 h3 h5 ⊢
  have HT := Lib.hid (cs_cb hc)
  have hp32 := pow_le_32 hm
  have HLen := Lib.hid (fun j => csTo_len (ns := ns) hm j)
  have HPW := Lib.hid (fun w => specPower (m : Int) w (by omega) (by omega))
  have hqI : (2 : Int) ^ m = ((2 ^ m : Nat) : Int) := by simp
  rw [Int.toNat_natCast, hqI] at HPW
  have HIL := Lib.hid (fun x k => cbIn_len ns x k)
  have HSS := Lib.hid (fun j => csTo_succ ns m j)
  generalize hq : 2 ^ m = q at *
  clear h1 h5 hqI hc
  have X0 := Lib.hid (Bx.new m (.slice a ns.length cap) w)
  have HZ := Lib.hid (show (w.alloc (Obj.cells #[.int .i64 (m : Int), .slice a ns.length cap] 47)).heap.size = w.heap.size + 1 by simp)
  have B0 := Lib.hid ((Below.refl w.heap.size w).alloc (Nat.le_refl _) (Obj.cells #[.int .i64 (m : Int), .slice a ns.length cap] 47))
  go_enter Tryz.func57, Tryz.ntmps57
  go_upto_region 1 with (fail)
  generalize (w.alloc (Obj.cells #[.int .i64 (m : Int), .slice a ns.length cap] 47)) = w1 at *
  have hz1 := HZ.out
  clear HZ
  have HE := Lib.hid ((Below.refl w1.heap.size w1).alloc (Nat.le_refl _) (Obj.cells #[] 78))
  have HP0 := Lib.hid (PrS.lit' (B := w1.heap.size) (w := w1) (Nat.le_refl _) rfl)
  go_wp2_with fail
  go_loopw [4, 3] (fun i o wr => ∃ (j : Nat) (a' : Option Addr) (c' : Nat), j ≤ q ∧ i = .int .i64 j ∧ o = .slice a' (csTo ns m j).length c' ∧ PrS w1.heap.size wr (.slice a' (csTo ns m j).length c') (csTo ns m j) ∧ Below w1.heap.size w1 wr) (fun i _ _ => q - (intOf i).toNat)
  case atStart => exact ⟨0, _, 0, Nat.zero_le _, rfl, rfl, by have h9 := HP0.out; rw [hz1] at h9 ⊢; exact h9, HE.out⟩
  case round =>
    obtain ⟨j, a', c', hj, rfl, rfl, hin, hbe⟩ := hrel
    have HIN := Lib.hid hin
    have HBE := Lib.hid hbe
    have hzr := hbe.size
    have X3 := Lib.hid (X0.out.next hbe (by omega))
    have B3 := Lib.hid (B0.out.trans (hbe.mono (by omega)))
    clear hin hbe
    have c0 := X3.out.out.at0
    have c1 := X3.out.out.at1
    go_wp2_with fail
    refine (HPW.out _).mono ?_
    rintro e w9 ⟨rfl, hw9⟩
    subst w9
    by_cases hlt : j < q
    · have hjI : (j : Int) < (q : Int) := by omega
      have HS := Lib.hid (HSS.out j)
      have hel := HLen.out j
      have hx32 : j < 32 := by omega
      generalize csTo ns m j = E at *
      go_wp2_with fail
      clear c0 c1
      go_loopw [5, 3] (fun i o wq => ∃ (k : Nat) (a' : Option Addr) (c' : Nat), k ≤ q ∧ i = .int .i64 k ∧ o = .slice a' (E ++ cbIn ns j k).length c' ∧ PrS w1.heap.size wq (.slice a' (E ++ cbIn ns j k).length c') (E ++ cbIn ns j k) ∧ Below w1.heap.size w1 wq) (fun i _ _ => q - (intOf i).toNat)
      case atStart =>
        refine ⟨0, a', c', by omega, rfl, ?_, ?_, HBE.out⟩
        · rw [show cbIn ns j 0 = [] from rfl, List.append_nil]
        · rw [show cbIn ns j 0 = [] from rfl, List.append_nil]; exact HIN.out
      case round =>
        obtain ⟨k, a2, c2, hk, rfl, rfl, hin2, hbf⟩ := hrel
        have HIN2 := Lib.hid hin2
        have HBF := Lib.hid hbf
        have hzq := hbf.size
        have X4 := Lib.hid (X0.out.next hbf (by omega))
        have B4 := Lib.hid (B0.out.trans (hbf.mono (by omega)))
        clear hin2 hbf HIN
        have c0 := X4.out.out.at0
        have c1 := X4.out.out.at1
        go_wp2_with fail
        refine (HPW.out _).mono ?_
        rintro e w9 ⟨rfl, hw9⟩
        subst w9
        by_cases hklt : k < q
        · have hkI : (k : Int) < (q : Int) := by omega
          have hk32 : k < 32 := by omega
          have HMM := Lib.hid (fun w => specMeet j k (by omega) (by omega) w)
          have hil := HIL.out j k
          have hcy : crn ns k j = true → E ++ cbIn ns j (k + 1) = E ++ cbIn ns j k ++ [((j : Int), (k : Int))] := fun h => by rw [cbIn_yes h, List.append_assoc]
          have hcn : crn ns k j = false → E ++ cbIn ns j (k + 1) = E ++ cbIn ns j k := fun h => by rw [cbIn_no h]
          rw [crn] at hcy hcn
          have HLE := Lib.hid (show (E ++ cbIn ns j k).length ≤ 1000000 by rw [List.length_append]; omega)
          generalize E ++ cbIn ns j k = F at *
          go_wp2_with fail
          refine (HMM.out _).mono ?_
          rintro e w9 ⟨rfl, hw9⟩
          subst w9
          by_cases hxk : j &&& k = 0
          · have HQ := Lib.hid (fun w h => specCubeIn (.slice a ns.length cap) ns j k hx32 hk32 hxk w h)
            have hxI : ((j &&& k : Nat) : Int) = 0 := by rw [hxk]; rfl
            rw [hxk, show ((0 : Nat) == 0) = true from rfl, Bool.true_and] at hcy hcn
            generalize cubTo (fun x => decide (x ∈ ns)) j k (k + 1) = cc at *
            have HRd := Lib.hid (H.out.below B4.out (Nat.le_refl _))
            go_wp2_with fail
            refine (HQ.out _ HRd.out).mono ?_
            rintro e w9 ⟨rfl, hw9⟩
            subst w9
            cases cc with
            | true =>
              have HCY := Lib.hid (hcy rfl)
              clear hcy hcn
              go_wp2_with (at_builtin; refine wpList_appP rfl (.tmp 32) (.tmp 36) rfl w1.heap.size _ F rfl (by exact HIN2.out.alloc _) _ (j : Int) (k : Int) rfl ⟨by rw [World.cell?_alloc_at _ _ _ _ rfl]; rfl, by rw [World.cell?_alloc_at _ _ _ _ rfl]; rfl⟩ (by exact HLE.out) (by simp; omega) ?_; intro a1 c1 w3 hin3 hb3 hg3; have H13 := Lib.hid (show Below w1.heap.size wr w3 from Below.trans ((Below.refl _ _).alloc (by omega) _) hb3); have I3 := Lib.hid hin3; clear hin3 hb3 hg3)
              go_roundw
              case rel => exact ⟨k + 1, a1, c1, by omega, by go_num, by rw [HCY.out, List.length_append]; rfl, by rw [HCY.out, List.length_append]; exact I3.out, HBF.out.trans H13.out⟩
              case measure => simp [intOf]; omega
            | false =>
              have HCN := Lib.hid (hcn rfl)
              go_wp2_with fail
              go_roundw
              case rel => exact ⟨k + 1, a2, c2, by omega, by go_num, by rw [HCN.out], by rw [HCN.out]; exact HIN2.out, HBF.out⟩
              case measure => simp [intOf]; omega
          · have hxI : ¬ ((j &&& k : Nat) : Int) = 0 := by omega
            have HCN := Lib.hid (hcn (by rw [beq_eq_false_iff_ne.2 hxk]; rfl))
            go_wp2_with fail
            go_roundw
            case rel => exact ⟨k + 1, a2, c2, by omega, by go_num, by rw [HCN.out], by rw [HCN.out]; exact HIN2.out, HBF.out⟩
            case measure => simp [intOf]; omega
        · obtain rfl : k = q := by omega
          have HS2 := Lib.hid (show csTo ns m (j + 1) = E ++ cbIn ns j k by rw [HS.out])
          generalize E ++ cbIn ns j k = F at *
          go_wp2_with fail
          go_roundw
          case rel => exact ⟨j + 1, a2, c2, by omega, by go_num, by rw [HS2.out], by rw [HS2.out]; exact HIN2.out, HBF.out⟩
          case measure => simp [intOf]; omega
    · obtain rfl : j = q := by omega
      go_wp2_with fail
      go_ret
      exact ⟨a', c', by rw [← HT.out]; rfl, by rw [← HT.out]; exact HIN.out.mono (by omega), B3.out⟩


end Go.Proofs.YtnmilfkocheaiaaGreatDoor
