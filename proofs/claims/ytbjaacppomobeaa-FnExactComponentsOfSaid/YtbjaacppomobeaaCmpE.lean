/- ComponentsOf: one number, the program's and the model's. Conditions: Sets is a slice of ints. -/
import Derived.Test.YtbjaacppomobeaaCmpI
namespace Go.Proofs.Ytbjaacppomobeaa
open Go.RowKit

set_option maxHeartbeats 1600000 in
set_option maxRecDepth 100000 in
theorem specCompsIn (m : Nat) (ns : List Nat) (F : Nat → Bool) (v : Value) (w : World) (hc : Cls m ns) (hv : vldB m (toI ns) = true) (hF : Fst ns F) (h : Rd w v (toI ns)) :
    Calls Try.prog 57 #[.agg #[.int .i64 m, v]] w fun e w' => e = .returned (.int .i64 (cmTo F ns.length : Nat)) ∧ Below w.heap.size w w' := by
  have H := Lib.hid h
  obtain ⟨a, b, off, cap, rfl, _, _, _⟩ := h
  rw [toI_length] at H ⊢
  have HV := Lib.hid (fun w h => specValid m (.slice a ns.length cap) (toI ns) w h)
  rw [hv] at HV
  have HS := Lib.hid (fun w h => specComps ns F (.slice a ns.length cap) w hc.length hc.lt32 hF h)
  have B0 := Lib.hid (Box.made m (.slice a ns.length cap) w 28)
  clear hv hF hc
  generalize cmTo F ns.length = c at *
  go_enter Try.func57, Try.ntmps57
  go_wp2_with fail
  refine (HV.out _ (H.out.below (k := w.heap.size) (by go_grown) (Nat.le_refl _))).mono ?_
  rintro e w1 ⟨rfl, hb⟩
  have B1 := Lib.hid (B0.out.next (by simp) hb)
  have hs1 : w.heap.size < w1.heap.size := by have := hb.size; simp at this; omega
  clear hb B0
  have c0 := B1.out.at0
  have c1 := B1.out.at1
  go_wp2_with fail
  refine (HS.out _ (H.out.below B1.out.below (Nat.le_refl _))).mono ?_
  rintro e w2 ⟨rfl, hb2⟩
  have B2 := Lib.hid (B1.out.next hs1 hb2)
  clear hb2 c0 c1
  go_wp2_with fail
  go_ret
  exact ⟨rfl, B2.out.below⟩
set_option maxHeartbeats 1600000 in
set_option maxRecDepth 100000 in
theorem specCompsNo (n : Int) (v : Value) (zs : List Int) (w : World) (hv : vldB n zs = false) (h : Rd w v zs) :
    Calls Try.prog 57 #[.agg #[.int .i64 n, v]] w fun e w' => e = .returned (.int .i64 (-1)) ∧ Below w.heap.size w w' := by
  have H := Lib.hid h
  obtain ⟨a, b, off, cap, rfl, _, _, _⟩ := h
  have HV := Lib.hid (fun w h => specValid n (.slice a zs.length cap) zs w h)
  rw [hv] at HV
  have B0 := Lib.hid (Box.made n (.slice a zs.length cap) w 28)
  clear hv
  go_enter Try.func57, Try.ntmps57
  go_wp2_with fail
  refine (HV.out _ (H.out.below (k := w.heap.size) (by go_grown) (Nat.le_refl _))).mono ?_
  rintro e w1 ⟨rfl, hb⟩
  have B1 := Lib.hid (B0.out.next (by simp) hb)
  clear hb B0
  go_wp2_with fail
  go_ret
  exact ⟨rfl, B1.out.below⟩
set_option maxHeartbeats 1600000 in
set_option maxRecDepth 100000 in
theorem implCompsNo (n : Int) (v : Value) (zs : List Int) (w : World) (hv : vldB n zs = false) (h : Rd w v zs) :
    Calls Try.prog 58 #[.agg #[.int .i64 n, v]] w fun e w' => e = .returned (.int .i64 (-1)) ∧ Below w.heap.size w w' := by
  have H := Lib.hid h
  obtain ⟨a, b, off, cap, rfl, _, _, _⟩ := h
  have HV := Lib.hid (fun w h => implValid n (.slice a zs.length cap) zs w h)
  rw [hv] at HV
  have B0 := Lib.hid (Box.made n (.slice a zs.length cap) w 28)
  clear hv
  go_enter Try.func58, Try.ntmps58
  go_wp2_with fail
  refine (HV.out _ (H.out.below (k := w.heap.size) (by go_grown) (Nat.le_refl _))).mono ?_
  rintro e w1 ⟨rfl, hb⟩
  have B1 := Lib.hid (B0.out.next (by simp) hb)
  clear hb B0
  go_wp2_with fail
  go_ret
  exact ⟨rfl, B1.out.below⟩
/-- both answer one number -/
theorem compBoth (n : Int) (zs : List Int) : ∃ R : Int,
    (∀ v w, Rd w v zs → Calls Try.prog 57 #[.agg #[.int .i64 n, v]] w fun e w' => e = .returned (.int .i64 R) ∧ Below w.heap.size w w') ∧
    (∀ v w, Rd w v zs → Calls Try.prog 58 #[.agg #[.int .i64 n, v]] w fun e w' => e = .returned (.int .i64 R) ∧ Below w.heap.size w w') := by
  by_cases hv : vldB n zs = true
  · obtain ⟨m, ns, rfl, rfl, hc⟩ := vldB_cls hv
    obtain ⟨F, hF⟩ := fst_ex ns
    exact ⟨_, fun v w h => specCompsIn m ns F v w hc hv hF h, fun v w h => implCompsIn m ns F v w hc hv hF h⟩
  · rw [Bool.not_eq_true] at hv
    exact ⟨-1, fun v w h => specCompsNo n v zs w hv h, fun v w h => implCompsNo n v zs w hv h⟩

end Go.Proofs.Ytbjaacppomobeaa
