/- FnExactTeachingPlan's walk: the law answers true. Conditions: what its argument's slice holds. -/
import Derived.Deep.Cut
import Derived.Deep.CutRange
import Derived.Deep.RegionWith
import Derived.Test.YtnoppclajhfnjaaDoorPlnI
import Derived.Test.YtnoppclajhfnjaaDoorPlnS
import Derived.Test.YtnoppclajhfnjaaDoorZB
namespace Go.Proofs.YtnoppclajhfnjaaDoor
open Go.RowKit

set_option maxHeartbeats 6400000 in
set_option maxRecDepth 100000 in
theorem walkExactTeachingPlan (n : Int) (v : Value) (xs : List Int) (w : World) (h : Rd w v xs) (hsw : SW w) :
    Calls Tryd.prog 10 #[.agg #[.int .i64 n, v]] w fun e w' => e = .returned (.bool true) ∧ Below w.heap.size w w' := by
  have H := Lib.hid h
  have HSW := Lib.hid hsw
  clear hsw
  obtain ⟨a, g, off, cap, rfl, h1, h3, h5⟩ := h
  clear h1 h5
  by_cases hsz : xs.length ≤ 1048576
  · have HL := Lib.hid (show left' 1048576 xs.length = 1048576 - xs.length by rw [left', if_neg (by omega)])
    have hR := tpB_len n xs
    have HS := Lib.hid (fun v w h => specTeachingPlan n v xs w h)
    have HI := Lib.hid (fun v w h hsw => implTeachingPlan n v xs w h hsw)
    generalize tpB n xs = R at *
    go_enter Tryd.func10, Tryd.ntmps10
    go_wp2_with fail
    refine (szClass _ _ _ _ _ _ (by omega) (by omega) h3).mono ?_
    rintro e w1 ⟨rfl, hb⟩
    rw [HL.out]
    have B1 := Lib.hid ((Box.made n (.slice a xs.length cap) w _).next (by simp) hb)
    have hs1 : w.heap.size < w1.heap.size := by have := hb.size; simp at this; omega
    clear hb
    have c0 := B1.out.at0
    have c1 := B1.out.at1
    go_wp2_with fail
    refine (toClass n _ xs _ (H.out.below B1.out.below (Nat.le_refl _)) hsz).mono ?_
    rintro e w2 ⟨a2, cap2, rfl, hin2, hb2⟩
    clear c0 c1
    have B2 := Lib.hid (B1.out.next hs1 hb2)
    have hs2 : w.heap.size < w2.heap.size := by have := hb2.size; omega
    have I2 := Lib.hid hin2
    clear hb2 hin2 B1
    go_wp2_with fail
    refine (HS.out _ _ I2.out.rd).mono ?_
    rintro e w3 ⟨a3, cap3, rfl, hin3, hb3⟩
    have B3 := Lib.hid (B2.out.next hs2 hb3)
    have hs3 : w.heap.size < w3.heap.size := by have := hb3.size; omega
    have I3 := Lib.hid (hin3.mono (Nat.zero_le _))
    clear hin3 hb3 B2 I2
    have c0 := B3.out.at0
    have c1 := B3.out.at1
    go_wp2_with fail
    refine (toClass n _ xs _ (H.out.below B3.out.below (Nat.le_refl _)) hsz).mono ?_
    rintro e w4 ⟨a4, cap4, rfl, hin4, hb4⟩
    clear c0 c1
    have B4 := Lib.hid (B3.out.next hs3 hb4)
    have hs34 : w3.heap.size ≤ w4.heap.size := hb4.size
    have hs4 : w.heap.size < w4.heap.size := by omega
    have I4 := Lib.hid hin4
    have J3 := Lib.hid (I3.out.below hb4 (Nat.le_refl _))
    clear hb4 hin4 B3
    go_wp2_with fail
    refine (HI.out _ _ (I4.out.rd.below (k := w4.heap.size) (by go_grown) (Nat.le_refl _)) ((HSW.out.next B4.out.below).next (by go_grown))).mono ?_
    rintro e w5 ⟨a5, cap5, rfl, hin5, hb5⟩
    have X5 := Lib.hid ((Box.made n (.slice a4 xs.length cap4) w4 _).next (by simp) hb5)
    have B5 := Lib.hid (B4.out.next hs4 X5.out.below)
    have J4 := Lib.hid (I4.out.below X5.out.below (Nat.le_refl _))
    have K3 := Lib.hid (J3.out.below X5.out.below (Nat.le_refl _))
    have I5 := Lib.hid (hin5.mono (show w4.heap.size ≤ _ by simp))
    have hs5 : w4.heap.size < w5.heap.size := by have := hb5.size; simp at this; omega
    have A34 := Lib.hid (I3.out.apart I4.out (Nat.le_refl _))
    have A35 := Lib.hid (J3.out.apart hin5 (by simp))
    have A45 := Lib.hid (I4.out.apart hin5 (by simp))
    clear hb5 hin5 B4 I4 J3 I3
    go_wp2_with fail
    refine (eqIntS _ _ R R _ I5.out.rd K3.out.rd).mono ?_
    rintro e w6 ⟨rfl, m6, rfl⟩
    rw [show eqB R R = true by simp [eqB]]
    have c0 := B5.out.at0
    have c1 := B5.out.at1
    have x0 := X5.out.at0
    have x1 := X5.out.at1
    have hs6 : w.heap.size < w5.heap.size := by omega
    go_upto_region 10 with (fail)
    go_cut [31] from 27 to 31 (fun u wq => u = .bool false ∧ Below w5.heap.size w5 wq)
    case first =>
      go_region_with (first
        | (go_at_call 14; refine (toClass n _ xs _ (by exact Rd.below H.out (by first | exact below_drewN B5.out.below _ | exact (below_drewN B5.out.below _).drew) (Nat.le_refl _)) hsz).mono ?_; rintro e w6 ⟨a6, cap6, rfl, hin6, hb6⟩; have hb56 : Below w5.heap.size w5 w6 := Below.trans (by first | exact below_drewN (Below.refl _ _) _ | exact (below_drewN (Below.refl _ _) _).drew) hb6; have I6 := Lib.hid hin6; clear hin6 hb6; obtain ⟨hc6, hf6⟩ := bcell hb56)
        | (go_at_call 16; refine (eqClass n n _ _ xs xs _ (by exact J4.out.rd.below (by assumption) (Nat.le_refl _)) (by exact I6.out.rd)).mono ?_; rintro e w7 ⟨rfl, hb7⟩; rw [show (decide (n = n) && eqB xs xs) = true by simp [eqB]]))
      all_goals
        go_wp2_with fail
        go_meet
        exact ⟨rfl, hb56.trans (hb7.mono (by have := hb56.size; simp; omega))⟩
    case rest =>
      obtain ⟨rfl, hb⟩ := hcut
      have B7 := Lib.hid (B5.out.next hs6 hb)
      have X7 := Lib.hid (X5.out.next hs5 hb)
      have hs7 : w4.heap.size < wc.heap.size := Nat.lt_of_lt_of_le hs5 hb.size
      have L3 := Lib.hid (K3.out.below hb (Nat.le_refl _))
      have L4 := Lib.hid (J4.out.below hb (Nat.le_refl _))
      have L5 := Lib.hid (I5.out.below hb (Nat.le_refl _))
      clear hb c0 c1 x0 x1 B5 X5 K3 J4 I5
      have x0 := X7.out.at0
      have x1 := X7.out.at1
      go_wp2_with fail
      refine (markClass n a4 xs.length cap4 xs 1 _ L4.out (by omega) hsz).mono ?_
      rintro e w8 ⟨rfl, hin8, hg8⟩
      clear x0 x1
      have B8 := Lib.hid (B7.out.grown hg8 (L4.out.row_ge hs3))
      have hs8 : w4.heap.size < w8.heap.size := Nat.lt_of_lt_of_le hs7 hg8.size
      have M3 := Lib.hid (L3.out.kept hg8 A34.out)
      have M5 := Lib.hid (L5.out.kept hg8 (L5.out.apart_of (A45.out)))
      clear hin8 hg8 L3 L4 L5 B7 X7
      go_wp2_with fail
      refine (eqIntS _ _ R R _ M5.out.rd M3.out.rd).mono ?_
      rintro e w9 ⟨rfl, m9, rfl⟩
      rw [show eqB R R = true by simp [eqB]]
      go_wp2_with fail
      refine (markIntS (B := w4.heap.size) _ R 1 _ (M5.out.drewN m9) (by omega) hR).mono ?_
      rintro e w10 ⟨rfl, hin10, hg10⟩
      have B10 := Lib.hid ((B8.out.drewN m9).grown hg10 (M5.out.row_ge hs4))
      have hs10 : w.heap.size < w10.heap.size := Nat.lt_of_lt_of_le (Nat.lt_of_le_of_lt (Nat.le_of_lt hs4) hs8) hg10.size
      have N3 := Lib.hid (Ints.kept (w := w8.drewN m9) M3.out hg10 A35.out)
      have N5 := Lib.hid hin10
      clear hin10 hg10 M3 M5 B8
      go_wp2_with fail
      refine (heldIntS _ R.length 1 _ N5.out.rd (by omega) hR).mono ?_
      rintro e w' ⟨rfl, rfl⟩
      have c0 := B10.out.at0
      have c1 := B10.out.at1
      go_wp2_with fail
      refine (toClass n _ xs _ (H.out.below B10.out.below (Nat.le_refl _)) hsz).mono ?_
      rintro e w11 ⟨a11, cap11, rfl, hin11, hb11⟩
      clear c0 c1
      have B11 := Lib.hid (B10.out.next hs10 hb11)
      have hs11 : w.heap.size < w11.heap.size := Nat.lt_of_lt_of_le hs10 hb11.size
      have I11 := Lib.hid hin11
      have P3 := Lib.hid (N3.out.below hb11 (Nat.le_refl _))
      have P5 := Lib.hid (N5.out.below hb11 (Nat.le_refl _))
      clear hin11 hb11 B10 N3 N5
      go_wp2_with fail
      refine (HI.out _ _ I11.out.rd (HSW.out.next B11.out.below)).mono ?_
      rintro e w12 ⟨a12, cap12, rfl, hin12, hb12⟩
      have B12 := Lib.hid (B11.out.next hs11 hb12)
      have I12 := Lib.hid hin12
      have Q3 := Lib.hid (P3.out.below hb12 (Nat.le_refl _))
      have Q5 := Lib.hid (P5.out.below hb12 (Nat.le_refl _))
      clear hin12 hb12 B11 P3 P5 I11
      go_wp2_with fail
      refine (eqIntS _ _ R R _ I12.out.rd Q3.out.rd).mono ?_
      rintro e w13 ⟨rfl, m13, rfl⟩
      rw [show eqB R R = true by simp [eqB]]
      go_wp2_with fail
      refine (heldIntS _ R.length 1 _ (Ints.rd (w := w12.drewN m13) Q5.out) (by omega) hR).mono ?_
      rintro e w' ⟨rfl, rfl⟩
      go_wp2_with fail
      go_ret
      exact ⟨rfl, below_drewN B12.out.below _⟩
  · have HL := Lib.hid (show left' 1048576 xs.length = -1 by rw [left', if_pos (by omega)])
    go_enter Tryd.func10, Tryd.ntmps10
    go_wp2_with fail
    refine (szClass _ _ _ _ _ _ (by omega) (by omega) h3).mono ?_
    rintro e w1 ⟨rfl, hb⟩
    rw [HL.out]
    have Hb := Lib.hid hb
    clear hb
    go_wp2_with fail
    go_ret
    exact ⟨rfl, Below.trans (by go_grown) (Hb.out.mono (by simp))⟩

end Go.Proofs.YtnoppclajhfnjaaDoor
