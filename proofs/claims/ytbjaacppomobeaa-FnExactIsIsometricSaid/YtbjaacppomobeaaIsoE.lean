/- IsIsometric: one answer, the program's and the model's. Conditions: Sets is a slice of ints. -/
import Derived.Test.YtbjaacppomobeaaIsoI
namespace Go.Proofs.Ytbjaacppomobeaa
open Go.RowKit

set_option maxHeartbeats 1600000 in
set_option maxRecDepth 100000 in
theorem specIsoNo (n : Int) (v : Value) (zs : List Int) (w : World) (hv : vldB n zs = false) (h : Rd w v zs) :
    Calls Try.prog 59 #[.agg #[.int .i64 n, v]] w fun e w' => e = .returned (.bool false) ∧ Below w.heap.size w w' := by
  have H := Lib.hid h
  obtain ⟨a, b, off, cap, rfl, _, _, _⟩ := h
  have HV := Lib.hid (fun w h => specValid n (.slice a zs.length cap) zs w h)
  rw [hv] at HV
  have B0 := Lib.hid (Box.made n (.slice a zs.length cap) w 28)
  clear hv
  go_enter Try.func59, Try.ntmps59
  go_wp2_with fail
  refine (HV.out _ (H.out.below (k := w.heap.size) (by go_grown) (Nat.le_refl _))).mono ?_
  rintro e w1 ⟨rfl, hb⟩
  have B1 := Lib.hid (B0.out.next (by simp) hb)
  clear hb B0
  go_wp2_with fail
  go_ret
  exact ⟨rfl, B1.out.below⟩
set_option maxHeartbeats 1600000 in
set_option maxRecDepth 100000 in
theorem implIsoNo (n : Int) (v : Value) (zs : List Int) (w : World) (hv : vldB n zs = false) (h : Rd w v zs) :
    Calls Try.prog 60 #[.agg #[.int .i64 n, v]] w fun e w' => e = .returned (.bool false) ∧ Below w.heap.size w w' := by
  have H := Lib.hid h
  obtain ⟨a, b, off, cap, rfl, _, _, _⟩ := h
  have HV := Lib.hid (fun w h => implValid n (.slice a zs.length cap) zs w h)
  rw [hv] at HV
  have B0 := Lib.hid (Box.made n (.slice a zs.length cap) w 28)
  clear hv
  go_enter Try.func60, Try.ntmps60
  go_wp2_with fail
  refine (HV.out _ (H.out.below (k := w.heap.size) (by go_grown) (Nat.le_refl _))).mono ?_
  rintro e w1 ⟨rfl, hb⟩
  have B1 := Lib.hid (B0.out.next (by simp) hb)
  clear hb B0
  go_wp2_with fail
  go_ret
  exact ⟨rfl, B1.out.below⟩
/-- both answer one bool -/
theorem isoBoth (n : Int) (zs : List Int) : ∃ R : Bool,
    (∀ v w, Rd w v zs → Calls Try.prog 59 #[.agg #[.int .i64 n, v]] w fun e w' => e = .returned (.bool R) ∧ Below w.heap.size w w') ∧
    (∀ v w, Rd w v zs → Calls Try.prog 60 #[.agg #[.int .i64 n, v]] w fun e w' => e = .returned (.bool R) ∧ Below w.heap.size w w') := by
  by_cases hv : vldB n zs = true
  · obtain ⟨m, ns, rfl, rfl, hc⟩ := vldB_cls hv
    obtain ⟨R, hR⟩ := iso_ex ns
    exact ⟨R, fun v w h => specIsoIn m ns R v w hc hv hR h, fun v w h => implIsoIn m ns R v w hc hv hR h⟩
  · rw [Bool.not_eq_true] at hv
    exact ⟨false, fun v w h => specIsoNo n v zs w hv h, fun v w h => implIsoNo n v zs w hv h⟩

end Go.Proofs.Ytbjaacppomobeaa
