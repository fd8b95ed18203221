/- The program's isSetOf, traceMarks, list, TraceOf. Conditions: Sets is a slice of ints. -/
import Derived.Test.YtlkodggaebnkfaaDoorArr
import Derived.Test.YtlkodggaebnkfaaDoorCls
namespace Go.Proofs.YtlkodggaebnkfaaDoor
open Go.RowKit

/-- isSetOf's answer -/
def inB (n : Int) (zs : List Int) (s : Int) : Bool := vldB n zs && setB n.toNat s

set_option maxHeartbeats 800000 in
theorem implIsSetOf (n : Int) (v : Value) (zs : List Int) (s : Int) (w : World) (h : Rd w v zs) :
    Calls Tryd.prog 39 #[.agg #[.int .i64 n, v], .int .i64 s] w fun e w' => e = .returned (.bool (inB n zs s)) ∧ Below w.heap.size w w' := by
  have H := Lib.hid h
  obtain ⟨a, b, off, cap, rfl, _, _, _⟩ := h
  by_cases hv : vldB n zs = true
  · obtain ⟨m, ns, rfl, rfl, hc⟩ := vldB_cls hv
    have hm := hc.pts
    have hw := wrap_pow m hm
    have HW := Lib.hid hw.1
    have hw2 := hw.2
    clear hw
    have HV := Lib.hid hv
    have HE := Lib.hid (show inB m (toI ns) s = setB m s by simp [inB, hv])
    clear hc hv
    by_cases hs0 : 0 ≤ s
    · have hd : decide ((0 : Int) ≤ s) = true := by simpa using hs0
      by_cases hs1 : s < wrap64 (2 ^ m)
      · have HS := Lib.hid (show setB m s = true by have := HW.out; simp [setB, hs0]; omega)
        go_enter Tryd.func39, Tryd.ntmps39
        go_wp2_with fail
        refine (implValid m _ (toI ns) _ (H.out.below (k := w.heap.size) (by go_grown) (Nat.le_refl _))).mono ?_
        rintro e w1 ⟨rfl, hb⟩
        rw [HV.out]
        have B1 := Lib.hid ((Box.made m (.slice a (toI ns).length cap) w _).next (by simp) hb)
        clear hb
        have c0 := B1.out.at0
        go_wp2_with fail
        go_ret
        exact ⟨ret_bool (by rw [HE.out, HS.out]), B1.out.below⟩
      · have HS := Lib.hid (show setB m s = false by have := HW.out; simp [setB]; omega)
        go_enter Tryd.func39, Tryd.ntmps39
        go_wp2_with fail
        refine (implValid m _ (toI ns) _ (H.out.below (k := w.heap.size) (by go_grown) (Nat.le_refl _))).mono ?_
        rintro e w1 ⟨rfl, hb⟩
        rw [HV.out]
        have B1 := Lib.hid ((Box.made m (.slice a (toI ns).length cap) w _).next (by simp) hb)
        clear hb
        have c0 := B1.out.at0
        go_wp2_with fail
        go_ret
        exact ⟨ret_bool (by rw [HE.out, HS.out]; simpa using hs1), B1.out.below⟩
    · have hd : decide ((0 : Int) ≤ s) = false := by simpa using hs0
      have HS := Lib.hid (show setB m s = false by simp [setB]; omega)
      go_enter Tryd.func39, Tryd.ntmps39
      go_wp2_with fail
      refine (implValid m _ (toI ns) _ (H.out.below (k := w.heap.size) (by go_grown) (Nat.le_refl _))).mono ?_
      rintro e w1 ⟨rfl, hb⟩
      rw [HV.out]
      have B1 := Lib.hid ((Box.made m (.slice a (toI ns).length cap) w _).next (by simp) hb)
      clear hb
      go_wp2_with fail
      go_ret
      exact ⟨ret_bool (by rw [HE.out, HS.out]), B1.out.below⟩
  · rw [Bool.not_eq_true] at hv
    have HE := Lib.hid (show inB n zs s = false by simp [inB, hv])
    have HV := Lib.hid hv
    clear hv
    go_enter Tryd.func39, Tryd.ntmps39
    go_wp2_with fail
    refine (implValid n _ zs _ (H.out.below (k := w.heap.size) (by go_grown) (Nat.le_refl _))).mono ?_
    rintro e w1 ⟨rfl, hb⟩
    rw [HV.out]
    have B1 := Lib.hid ((Box.made n (.slice a zs.length cap) w _).next (by simp) hb)
    clear hb
    go_wp2_with fail
    go_ret
    exact ⟨ret_bool HE.out.symm, B1.out.below⟩




/-- the parts of a set, marked -/
def partTo (s k p : Nat) : Bool := decide (p < k) && (p &&& s == p)
theorem partTo_succ (s k p : Nat) : partTo s (k + 1) p = if p = k then (k &&& s == k) else partTo s k p := by
  unfold partTo
  by_cases h : p = k
  · subst h; simp
  · rw [if_neg h, show decide (p < k + 1) = decide (p < k) by rw [decide_eq_decide]; omega]


end Go.Proofs.YtlkodggaebnkfaaDoor
