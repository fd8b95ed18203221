/- The model's MajorityOf. Conditions: Sets is a slice of ints. -/
import Derived.Test.YthjbkjkfibiceaaDoorMaj
import Derived.Deep.RegionHeld3
import Derived.Deep.RegionWith
namespace Go.Proofs.YthjbkjkfibiceaaDoor
open Go.RowKit

set_option maxHeartbeats 6400000 in
set_option maxRecDepth 100000 in
theorem specMajorityOfA (n : Int) (v : Value) (zs : List Int) (x : Int) (w : World) (h : Rd w v zs) (hp : ptB n zs x = true) :
    Calls Tryd.prog 31 #[.agg #[.int .i64 n, v], .int .i64 x] w fun e w' => e = .returned (.bool (majB n zs x)) ∧ Below w.heap.size w w' := by
  have H := Lib.hid h
  obtain ⟨a, b, off, cap, rfl, _, _, _⟩ := h
  have HF1 := Lib.hid (fun v w h => specValid n v zs w h)
  have B1 := Lib.hid (Box.made n (.slice a zs.length cap) w 25)
  have HSZ := Lib.hid (show w.heap.size < (w.alloc (Obj.cells #[.int .i64 n, .slice a zs.length cap] 25)).heap.size by simp)
  have HP := Lib.hid hp
  obtain ⟨m, y, ns, rfl, rfl, rfl, hc, hy, hm, hv⟩ := ptB_nat hp
  have HV := Lib.hid hv
  have HC := Lib.hid hc
  have hl := hc.length
  have HWm := Lib.hid (show IntKind.i64.wrap ((m : Int) - 1) = (m : Int) - 1 by rw [IntKind.wrap_i64]; omega)
  have HR := Lib.hid (show (decide ((0 : Int) ≤ (y : Int)) && decide ((y : Int) ≤ (m : Int) - 1)) = true by simp; omega)
  have HF3 := Lib.hid (fun v w h => specYes v ns y (by omega) HC.out.lt32 hl w h)
  have HT := Lib.hid (show majB m (toI ns) y = decide ((ns.length : Int) < 2 * ((wth y ns).length : Int)) by rw [majB, hp, toNat_toI, ← gHal_two]; simp)
  have hA : (wth y ns).length ≤ ns.length := List.length_filter_le _ _
  have HWA := Lib.hid (show IntKind.i64.wrap (2 * ((wth y ns).length : Int)) = 2 * ((wth y ns).length : Int) by rw [IntKind.wrap_i64]; omega)
  rw [toI_length] at H B1 HSZ ⊢
  generalize wth y ns = A at *
  have HAl := Lib.hid (toI_length A)
  have c0 := B1.out.at0
  have c1 := B1.out.at1
  clear hp hv hc
  go_enter Tryd.func31, Tryd.ntmps31
  go_wp2_with fail
  generalize w.alloc (Obj.cells #[.int .i64 (m : Int), .slice a ns.length cap] 25) = w1 at *
  go_region_held3 (fun w' => w'.cell? ⟨w.heap.size, 0, none⟩ = some (.int .i64 (m : Int)) ∧ w'.cell? ⟨w.heap.size, 1, none⟩ = some (.slice a ns.length cap)) (first | exact ⟨c0, c1⟩ | exact ⟨d0, d1⟩ | exact ⟨e0, e1⟩ | go_keep) (first
    | (go_at_call 42; refine (HF1.out _ _ (Rd.below H.out (by first | exact B1.out.below | exact B1.out.below.drew) (Nat.le_refl _))).mono ?_; rintro e w2 ⟨rfl, hb2⟩; rw [HV.out]; have hb12 : Below w1.heap.size w1 w2 := Below.trans (by first | exact Below.refl _ _ | exact (Below.refl _ _).drew) hb2; clear hb2; have B2 := Lib.hid (B1.out.next HSZ.out hb12); have HSZ2 := Lib.hid (Nat.lt_of_lt_of_le HSZ.out hb12.size); clear hb12; have d0 := B2.out.at0; have d1 := B2.out.at1)
    | (go_at_call 60; refine (specInRange _ _ _ _).mono ?_; rintro e w4 ⟨rfl, rfl⟩; rw [HWm.out, HR.out])
    | (go_at_call 53; refine (HF3.out _ _ (Rd.below H.out (by first | exact B2.out.below | exact B2.out.below.drew) (Nat.le_refl _))).mono ?_; rintro e w3 ⟨a3, cc3, rfl, _, hb3⟩; rw [HAl.out]; have hb13 : Below w2.heap.size w2 w3 := Below.trans (by first | exact Below.refl _ _ | exact (Below.refl _ _).drew) hb3; clear hb3; have B3 := Lib.hid (B2.out.next HSZ2.out hb13); clear hb13; have e0 := B3.out.at0; have e1 := B3.out.at1))
  all_goals
    go_wp2_with fail
    go_ret
    exact ⟨ret_bool (by first | exact HT.out.symm | (rw [HWA.out]; exact HT.out.symm)), B3.out.below⟩

end Go.Proofs.YthjbkjkfibiceaaDoor
