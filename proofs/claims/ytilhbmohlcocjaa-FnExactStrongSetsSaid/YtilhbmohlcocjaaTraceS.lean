/- The model's validSet, TraceOf, shatters, IsShattered. Conditions: Sets is a slice of ints. -/
import Derived.Test.YtilhbmohlcocjaaTrace
import Derived.Test.YtilhbmohlcocjaaCls
namespace Go.Proofs.Ytilhbmohlcocjaa
open Go.RowKit

set_option maxHeartbeats 400000 in
theorem specValidSet (n : Nat) (hn : n ≤ 5) (v : Value) (s : Int) (w : World) :
    Calls Try.prog 40 #[.agg #[.int .i64 n, v], .int .i64 s] w fun e w' => e = .returned (.bool (setB n s)) ∧ Below w.heap.size w w' := by
  have hp := two_pow_le n (by omega)
  go_enter Try.func40, Try.ntmps40
  go_wp2_with fail
  refine (power_q n hn _).mono ?_
  rintro e w' ⟨rfl, rfl⟩
  have HE := Lib.hid (show setB n s = (decide ((0 : Int) ≤ s) && decide (s ≤ 2 ^ n - 1)) by
    rw [setB]; congr 1; rw [decide_eq_decide]; omega)
  generalize (2 : Int) ^ n = q at *
  go_wp2_with fail
  refine (specInRange _ _ _ _).mono ?_
  rintro e w' ⟨rfl, rfl⟩
  rw [← HE.out]
  go_wp2_with fail
  go_ret
  exact ⟨rfl, by go_grown⟩

set_option maxHeartbeats 800000 in
theorem specTraceOf (n : Int) (v : Value) (zs : List Int) (s : Int) (w : World) (h : Rd w v zs) :
    Calls Try.prog 17 #[.agg #[.int .i64 n, v], .int .i64 s] w (RetInts (traceB n zs s) w) := by
  have H := Lib.hid h
  obtain ⟨a, b, off, cap, rfl, _, _, _⟩ := h
  by_cases hv : vldB n zs = true
  · obtain ⟨m, ns, rfl, rfl, hc⟩ := vldB_cls hv
    have hm := hc.pts
    have hl := hc.length
    have HC := Lib.hid hc
    by_cases hs : setB m s = true
    · obtain ⟨t, rfl, ht, ht32⟩ := setB_nat hm hs
      have HT := Lib.hid (traceB_in hv hs)
      have HS := Lib.hid hs
      have HV := Lib.hid hv
      clear hs hv hc
      go_enter Try.func17, Try.ntmps17
      go_wp2_with fail
      refine (specValid m _ (toI ns) _ (H.out.below (k := w.heap.size) (by go_grown) (Nat.le_refl _))).mono ?_
      rintro e w1 ⟨rfl, hb⟩
      rw [HV.out]
      have B1 := Lib.hid ((Box.made m (.slice a (toI ns).length cap) w _).next (by simp) hb)
      have hs1 : w.heap.size < w1.heap.size := by have := hb.size; simp at this; omega
      clear hb
      have c0 := B1.out.at0
      have c1 := B1.out.at1
      go_wp2_with fail
      refine (specValidSet m hm _ _ _).mono ?_
      rintro e w2 ⟨rfl, hb2⟩
      rw [HS.out]
      clear c0 c1
      have B2 := Lib.hid (B1.out.next hs1 hb2)
      clear hb2 B1
      have c0 := B2.out.at0
      have c1 := B2.out.at1
      go_wp2_with fail
      refine (specTrace _ ns t _ HC.out.lt32 (by omega) ht32 (H.out.below B2.out.below (Nat.le_refl _))).mono ?_
      intro e w3 h3
      obtain ⟨a3, c3, rfl, hin3, hb3⟩ := RetInts.after B2.out.below h3
      have HI3 := Lib.hid hin3
      have HB3 := Lib.hid hb3
      clear hin3 hb3 h3 c0 c1
      go_wp2_with fail
      go_ret
      rw [HT.out]
      exact ⟨a3, c3, rfl, HI3.out, HB3.out⟩
    · rw [Bool.not_eq_true] at hs
      have HT := Lib.hid (traceB_out (zs := toI ns) hs)
      have HS := Lib.hid hs
      have HV := Lib.hid hv
      clear hs hv hc
      go_enter Try.func17, Try.ntmps17
      go_wp2_with fail
      refine (specValid m _ (toI ns) _ (H.out.below (k := w.heap.size) (by go_grown) (Nat.le_refl _))).mono ?_
      rintro e w1 ⟨rfl, hb⟩
      rw [HV.out]
      have B1 := Lib.hid ((Box.made m (.slice a (toI ns).length cap) w _).next (by simp) hb)
      have hs1 : w.heap.size < w1.heap.size := by have := hb.size; simp at this; omega
      clear hb
      have c0 := B1.out.at0
      have c1 := B1.out.at1
      go_wp2_with fail
      refine (specValidSet m hm _ _ _).mono ?_
      rintro e w2 ⟨rfl, hb2⟩
      rw [HS.out]
      clear c0 c1
      have B2 := Lib.hid (B1.out.next hs1 hb2)
      clear hb2 B1
      go_wp2_with fail
      go_ret
      rw [HT.out]
      exact ⟨none, 0, rfl, Ints.nil _ _, B2.out.below⟩
  · rw [Bool.not_eq_true] at hv
    have HT := Lib.hid (traceB_bad (s := s) hv)
    have HV := Lib.hid hv
    clear hv
    go_enter Try.func17, Try.ntmps17
    go_wp2_with fail
    refine (specValid n _ zs _ (H.out.below (k := w.heap.size) (by go_grown) (Nat.le_refl _))).mono ?_
    rintro e w1 ⟨rfl, hb⟩
    rw [HV.out]
    have B1 := Lib.hid ((Box.made n (.slice a zs.length cap) w _).next (by simp) hb)
    clear hb
    go_wp2_with fail
    go_ret
    rw [HT.out]
    exact ⟨none, 0, rfl, Ints.nil _ _, B1.out.below⟩

end Go.Proofs.Ytilhbmohlcocjaa
