/- The program's isPointOf. Conditions: Sets is a slice of ints. -/
import Derived.Test.YtejjimfoihhcoabDoorArr
import Derived.Test.YtejjimfoihhcoabDoorCls
namespace Go.Proofs.YtejjimfoihhcoabDoor
open Go.RowKit

/-- isPointOf's answer -/
def ptB (n : Int) (zs : List Int) (x : Int) : Bool := vldB n zs && (decide (0 ≤ x) && decide (x < n))
theorem ptB_nat {n : Int} {zs : List Int} {x : Int} (h : ptB n zs x = true) : ∃ (m y : Nat) (ns : List Nat), n = m ∧ x = y ∧ zs = toI ns ∧ Cls m ns ∧ y < m ∧ m ≤ 5 ∧ vldB m (toI ns) = true := by
  simp only [ptB, Bool.and_eq_true, decide_eq_true_eq] at h
  obtain ⟨h0, h1, h2⟩ := h
  obtain ⟨m, ns, rfl, rfl, hc⟩ := vldB_cls h0
  obtain ⟨y, rfl⟩ := Int.eq_ofNat_of_zero_le h1
  exact ⟨m, y, ns, rfl, rfl, rfl, hc, by omega, hc.pts, h0⟩

set_option maxHeartbeats 800000 in
theorem implIsPointOf (n : Int) (v : Value) (zs : List Int) (x : Int) (w : World) (h : Rd w v zs) :
    Calls Tryd.prog 70 #[.agg #[.int .i64 n, v], .int .i64 x] w fun e w' => e = .returned (.bool (ptB n zs x)) ∧ Below w.heap.size w w' := by
  have H := Lib.hid h
  obtain ⟨a, b, off, cap, rfl, _, _, _⟩ := h
  by_cases hv : vldB n zs = true
  · obtain ⟨m, ns, rfl, rfl, hc⟩ := vldB_cls hv
    have hm := hc.pts
    have HV := Lib.hid hv
    have HE := Lib.hid (show ptB m (toI ns) x = (decide (0 ≤ x) && decide (x < m)) by simp [ptB, hv])
    clear hc hv
    by_cases hs0 : 0 ≤ x
    · have hd : decide ((0 : Int) ≤ x) = true := by simpa using hs0
      have HD := Lib.hid hd
      go_enter Tryd.func70, Tryd.ntmps70
      go_wp2_with fail
      refine (implValid m _ (toI ns) _ (H.out.below (k := w.heap.size) (by go_grown) (Nat.le_refl _))).mono ?_
      rintro e w1 ⟨rfl, hb⟩
      rw [HV.out]
      have B1 := Lib.hid ((Box.made m (.slice a (toI ns).length cap) w _).next (by simp) hb)
      clear hb
      have c0 := B1.out.at0
      go_wp2_with fail
      go_ret
      exact ⟨ret_bool (by rw [HE.out, HD.out]; simp), B1.out.below⟩
    · have hd : decide ((0 : Int) ≤ x) = false := by simpa using hs0
      have HD := Lib.hid hd
      go_enter Tryd.func70, Tryd.ntmps70
      go_wp2_with fail
      refine (implValid m _ (toI ns) _ (H.out.below (k := w.heap.size) (by go_grown) (Nat.le_refl _))).mono ?_
      rintro e w1 ⟨rfl, hb⟩
      rw [HV.out]
      have B1 := Lib.hid ((Box.made m (.slice a (toI ns).length cap) w _).next (by simp) hb)
      clear hb
      have c0 := B1.out.at0
      go_wp2_with fail
      go_ret
      exact ⟨ret_bool (by rw [HE.out, HD.out]; rfl), B1.out.below⟩
  · rw [Bool.not_eq_true] at hv
    have HE := Lib.hid (show ptB n zs x = false by simp [ptB, hv])
    have HV := Lib.hid hv
    clear hv
    go_enter Tryd.func70, Tryd.ntmps70
    go_wp2_with fail
    refine (implValid n _ zs _ (H.out.below (k := w.heap.size) (by go_grown) (Nat.le_refl _))).mono ?_
    rintro e w1 ⟨rfl, hb⟩
    rw [HV.out]
    have B1 := Lib.hid ((Box.made n (.slice a zs.length cap) w _).next (by simp) hb)
    clear hb
    go_wp2_with fail
    go_ret
    exact ⟨ret_bool (by rw [HE.out]), B1.out.below⟩

end Go.Proofs.YtejjimfoihhcoabDoor
