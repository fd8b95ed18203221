/- LittlestoneOf, the program's and the model's. Conditions: Sets is a slice of ints; the table setsWith is laid. -/
import Derived.Test.YtnmilfkocheaiaaGreatDoorLittleS
namespace Go.Proofs.YtnmilfkocheaiaaGreatDoor
open Go.RowKit

def litB (n : Int) (zs : List Int) : Int := if vldB n zs = true then mst (zs.map Int.toNat) else -1

set_option maxHeartbeats 1600000 in
set_option maxRecDepth 100000 in
theorem implLittlestoneOf (n : Int) (v : Value) (zs : List Int) (w : World) (h : Rd w v zs) (hsw : SW w) :
    Calls Tryz.prog 70 #[.agg #[.int .i64 n, v]] w fun e w' => e = .returned (.int .i64 (litB n zs)) ∧ Below w.heap.size w w' := by
  have H := Lib.hid h
  have HSW := Lib.hid hsw
  clear hsw
  obtain ⟨a, b, off, cap, rfl, h1, h3, h5⟩ := h
  have B0 := Lib.hid (Box.made n (.slice a zs.length cap) w 47)
  by_cases hv : vldB n zs = true
  · obtain ⟨m, ns, rfl, rfl, hc⟩ := vldB_cls hv
    have hm := hc.pts
    have HV := Lib.hid hv
    have HT := Lib.hid (show litB m (toI ns) = mst ns by rw [litB, if_pos hv, toNat_toI])
    have HC := Lib.hid hc
    have hl := hc.length
    rw [toI_length] at h1 h3 h5 H B0 ⊢
    clear hv hc h1 h5
    go_enter Tryz.func70, Tryz.ntmps70
    go_wp2_with fail
    refine (implValid m _ (toI ns) _ (H.out.below (k := w.heap.size) (by go_grown) (Nat.le_refl _))).mono ?_
    rintro e w1 ⟨rfl, hb⟩
    rw [HV.out]
    have hs1 : w.heap.size < w1.heap.size := by have := hb.size; simp at this; omega
    have B1 := Lib.hid (B0.out.next (by simp) hb)
    clear hb
    have R1 := Lib.hid (H.out.below B1.out.below (Nat.le_refl _))
    have c0 := B1.out.at0
    have c1 := B1.out.at1
    go_wp2_with fail
    have SW1 := Lib.hid (HSW.out.next B1.out.below)
    refine (implFamilyOf m _ ns HC.out.lt32 _ R1.out).mono ?_
    rintro e w2 ⟨rfl, hb2⟩
    have B2 := Lib.hid (B1.out.next hs1 hb2)
    have SW2 := Lib.hid (SW1.out.next hb2)
    have hz2 := hb2.size
    clear hb2 c0 c1
    go_wp2_with fail
    refine (implMistakeDepth ns HC.out.lt32 hl _ SW2.out).mono ?_
    rintro e w3 ⟨rfl, hb3⟩
    have B3 := Lib.hid (B2.out.next (by omega) hb3)
    clear hb3
    go_wp2_with fail
    go_ret
    exact ⟨ret_int HT.out.symm, B3.out.below⟩
  · have HT := Lib.hid (show litB n zs = -1 by rw [litB, if_neg hv])
    rw [Bool.not_eq_true] at hv
    have HV := Lib.hid hv
    clear hv
    go_enter Tryz.func70, Tryz.ntmps70
    go_wp2_with fail
    refine (implValid n _ zs _ (H.out.below (k := w.heap.size) (by go_grown) (Nat.le_refl _))).mono ?_
    rintro e w1 ⟨rfl, hb⟩
    rw [HV.out]
    have B1 := Lib.hid (B0.out.next (by simp) hb)
    clear hb
    go_wp2_with fail
    go_ret
    exact ⟨ret_int HT.out.symm, B1.out.below⟩


end Go.Proofs.YtnmilfkocheaiaaGreatDoor
