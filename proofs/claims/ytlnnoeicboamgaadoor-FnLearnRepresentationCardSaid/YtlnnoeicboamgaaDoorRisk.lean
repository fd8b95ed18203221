/- RiskOf, the program's and the model's. Conditions: Sets is a slice of ints, the list one of examples. -/
import Derived.Test.YtlnnoeicboamgaaDoorMiss
import Derived.Test.YtlnnoeicboamgaaDoorZB
namespace Go.Proofs.YtlnnoeicboamgaaDoor
open Go.RowKit

/-- are the arguments valid? -/
def rkK (n : Int) (zs : List Int) (s : Int) (es : List (Int × Bool)) : Bool := inB n zs s && vsB n zs es
/-- RiskOf -/
def rkB (n : Int) (zs : List Int) (s : Int) (es : List (Int × Bool)) : Int := if rkK n zs s es = true then msTo s.toNat es es.length else -1
theorem rkB_no {n : Int} {zs : List Int} {s : Int} {es : List (Int × Bool)} (h : rkK n zs s es = false) : rkB n zs s es = -1 := by rw [rkB, if_neg (by rw [h]; simp)]
theorem rkB_in {n : Int} {zs : List Int} {s : Nat} {es : List (Int × Bool)} (h : rkK n zs s es = true) : rkB n zs s es = msTo s es es.length := by rw [rkB, if_pos h, Int.toNat_natCast]
theorem vsB_pts {n : Int} {zs : List Int} {es : List (Int × Bool)} (h : vsB n zs es = true) : ptsTo n es es.length = true ∧ es.length ≤ 12 := by
  simp only [vsB, Bool.and_eq_true, decide_eq_true_eq] at h
  exact ⟨h.2.2, h.2.1⟩

set_option maxHeartbeats 3200000 in
set_option maxRecDepth 100000 in
theorem implRiskOf (n : Int) (v : Value) (zs : List Int) (s : Int) (u : Value) (es : List (Int × Bool)) (w : World) (h : Rd w v zs) (hu : RdE w u es) :
    Calls Tryd.prog 22 #[.agg #[.int .i64 n, v], .int .i64 s, u] w fun e w' => e = .returned (.int .i64 (rkB n zs s es)) ∧ Below w.heap.size w w' := by
  have H := Lib.hid h
  have HU := Lib.hid hu
  have HI := Lib.hid (fun w h => implIsSetOf n v zs s w h)
  have HVS := Lib.hid (fun w h hu => implValidSample n v zs u es w h hu)
  obtain ⟨a, b, off, cap, rfl, _, _, _⟩ := h
  obtain ⟨a2, b2, off2, cap2, rfl, _, _, _⟩ := hu
  have B0 := Lib.hid (Box.made n (.slice a zs.length cap) w 30)
  by_cases hi : inB n zs s = true
  · by_cases hv : vsB n zs es = true
    · have hvd : vldB n zs = true := by simp only [inB, Bool.and_eq_true] at hi; exact hi.1
      have hsd : setB n.toNat s = true := by simp only [inB, Bool.and_eq_true] at hi; exact hi.2
      obtain ⟨m, ns, rfl, rfl, hc⟩ := vldB_cls hvd
      have hm := hc.pts
      rw [Int.toNat_natCast] at hsd
      obtain ⟨t, rfl, ht, ht32⟩ := setB_nat hm hsd
      rw [rkB_in (show rkK (m : Int) (toI ns) (t : Int) es = true by rw [rkK, hi, hv]; rfl)]
      obtain ⟨hp, h12⟩ := vsB_pts hv
      have HM := Lib.hid (fun w hu => implMisses t ht32 m hm (.slice a2 es.length cap2) es hp h12 w hu)
      rw [hi] at HI
      rw [hv] at HVS
      clear hi hv hvd hsd hc hp
      go_enter Tryd.func22, Tryd.ntmps22
      go_wp2_with fail
      refine (HI.out _ (H.out.below (k := w.heap.size) (by go_grown) (Nat.le_refl _))).mono ?_
      rintro e w1 ⟨rfl, hb⟩
      have hs1 : w.heap.size < w1.heap.size := by have := hb.size; simp at this; omega
      have B1 := Lib.hid (B0.out.next (by simp) hb)
      clear hb
      have c0 := B1.out.at0
      have c1 := B1.out.at1
      go_wp2_with fail
      refine (HVS.out _ (H.out.below B1.out.below (Nat.le_refl _)) (HU.out.below B1.out.below (Nat.le_refl _))).mono ?_
      rintro e w2 ⟨rfl, hb2⟩
      have B2 := Lib.hid (B1.out.next hs1 hb2)
      clear hb2 c0 c1
      go_wp2_with fail
      refine (HM.out _ (HU.out.below B2.out.below (Nat.le_refl _))).mono ?_
      rintro e w3 ⟨rfl, hb3⟩
      have B3 := Lib.hid (B2.out.below.trans (hb3.mono B2.out.below.size))
      clear hb3
      go_wp2_with fail
      go_ret
      exact ⟨rfl, B3.out⟩
    · rw [Bool.not_eq_true] at hv
      rw [rkB_no (show rkK n zs s es = false by rw [rkK, hv, Bool.and_false])]
      rw [hi] at HI
      rw [hv] at HVS
      clear hi hv
      go_enter Tryd.func22, Tryd.ntmps22
      go_wp2_with fail
      refine (HI.out _ (H.out.below (k := w.heap.size) (by go_grown) (Nat.le_refl _))).mono ?_
      rintro e w1 ⟨rfl, hb⟩
      have hs1 : w.heap.size < w1.heap.size := by have := hb.size; simp at this; omega
      have B1 := Lib.hid (B0.out.next (by simp) hb)
      clear hb
      have c0 := B1.out.at0
      have c1 := B1.out.at1
      go_wp2_with fail
      refine (HVS.out _ (H.out.below B1.out.below (Nat.le_refl _)) (HU.out.below B1.out.below (Nat.le_refl _))).mono ?_
      rintro e w2 ⟨rfl, hb2⟩
      have B2 := Lib.hid (B1.out.next hs1 hb2)
      clear hb2 c0 c1
      go_wp2_with fail
      go_ret
      exact ⟨rfl, B2.out.below⟩
  · rw [Bool.not_eq_true] at hi
    rw [rkB_no (show rkK n zs s es = false by rw [rkK, hi, Bool.false_and])]
    rw [hi] at HI
    clear hi
    go_enter Tryd.func22, Tryd.ntmps22
    go_wp2_with fail
    refine (HI.out _ (H.out.below (k := w.heap.size) (by go_grown) (Nat.le_refl _))).mono ?_
    rintro e w1 ⟨rfl, hb⟩
    have B1 := Lib.hid (B0.out.next (by simp) hb)
    clear hb
    go_wp2_with fail
    go_ret
    exact ⟨rfl, B1.out.below⟩


end Go.Proofs.YtlnnoeicboamgaaDoor
