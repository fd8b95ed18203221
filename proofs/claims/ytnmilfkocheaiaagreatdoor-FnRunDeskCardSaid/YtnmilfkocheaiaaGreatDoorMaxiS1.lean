/- The model's IsMaximum. Conditions: Sets is a slice of ints. -/
import Derived.Deep.RegionHeld3
import Derived.Deep.RegionWith
import Derived.Test.YtnmilfkocheaiaaGreatDoorZG
namespace Go.Proofs.YtnmilfkocheaiaaGreatDoor
open Go.RowKit

set_option maxHeartbeats 12800000 in
set_option maxRecDepth 100000 in
theorem specIsMaximumA (n : Int) (v : Value) (zs : List Int) (w : World) (h : Rd w v zs) (hv : vldB n zs = true) :
    Calls Tryz.prog 36 #[.agg #[.int .i64 n, v]] w fun e w' => e = .returned (.bool (maxB n zs)) ∧ Below w.heap.size w w' := by
  have H := Lib.hid h
  obtain ⟨a, b, off, cap, rfl, _, _, _⟩ := h
  have B1 := Lib.hid (Box.made n (.slice a zs.length cap) w 47)
  have HSZ := Lib.hid (show w.heap.size < (w.alloc (Obj.cells #[.int .i64 n, .slice a zs.length cap] 47)).heap.size by simp)
  have c0 := B1.out.at0
  have c1 := B1.out.at1
  have HE := Lib.hid (maxB_in hv)
  have HV := Lib.hid hv
  have HLT := Lib.hid (shatN_lt n zs)
  have HF1 := Lib.hid (fun v w h => specValid n v zs w h)
  have HF2 := Lib.hid (show ∀ v w, Rd w v zs → Calls Tryz.prog 27 #[.agg #[.int .i64 n, v]] w (RetInts (toI (shatN n zs)) w) from by
    obtain ⟨m, ns, rfl, rfl, hc⟩ := vldB_cls hv
    rw [shatN_in hv]
    exact fun v w h => specShatAll m v ns w hc h)
  have HF3 := Lib.hid (show ∀ w, Calls Tryz.prog 58 #[.int .i64 n, .int .i64 (vcB n zs)] w fun e w' => e = .returned (.int .i64 (sauerB n (vcB n zs))) ∧ w' = w from by
    obtain ⟨m, ns, rfl, rfl, hc⟩ := vldB_cls hv
    rw [sauerB_in hc.pts]
    exact fun w => specSauer m _ hc.pts w)
  have HF4 := Lib.hid (fun v w h => specWidest v (shatN n zs) w HLT.out h)
  have HD := Lib.hid (show widL (shatN n zs) = vcB n zs from rfl)
  rw [HD.out] at HF4
  have HAl := Lib.hid (toI_length (shatN n zs))
  clear hv
  generalize sauerB n (vcB n zs) = S at *
  generalize vcB n zs = D at *
  generalize shatN n zs = A at *
  go_enter Tryz.func36, Tryz.ntmps36
  go_wp2_with fail
  generalize w.alloc (Obj.cells #[.int .i64 n, .slice a zs.length cap] 47) = w1 at *
  go_region_held3 (fun w' => w'.cell? ⟨w.heap.size, 0, none⟩ = some (.int .i64 n) ∧ w'.cell? ⟨w.heap.size, 1, none⟩ = some (.slice a zs.length cap)) (first | exact ⟨c0, c1⟩ | exact ⟨d0, d1⟩ | exact ⟨e0, e1⟩ | go_keep) (first
    | (go_at_call 47; refine (HF1.out _ _ (Rd.below H.out (by first | exact B1.out.below | exact B1.out.below.drew) (Nat.le_refl _))).mono ?_; rintro e w2 ⟨rfl, hb2⟩; rw [HV.out]; have hb12 : Below w1.heap.size w1 w2 := Below.trans (by first | exact Below.refl _ _ | exact (Below.refl _ _).drew) hb2; clear hb2; have B2 := Lib.hid (B1.out.next HSZ.out hb12); have HSZ2 := Lib.hid (Nat.lt_of_lt_of_le HSZ.out hb12.size); clear hb12; have d0 := B2.out.at0; have d1 := B2.out.at1)
    | (go_at_call 27; refine (HF2.out _ _ (Rd.below H.out (by first | exact B2.out.below | exact B2.out.below.drew) (Nat.le_refl _))).mono ?_; rintro e w3 ⟨a3, cc3, rfl, hin3, hb3⟩; have R3 := Lib.hid hin3.rd; have hb13 : Below w2.heap.size w2 w3 := Below.trans (by first | exact Below.refl _ _ | exact (Below.refl _ _).drew) hb3; clear hin3 hb3; have B3 := Lib.hid (B2.out.next HSZ2.out hb13); clear hb13; have e0 := B3.out.at0; have e1 := B3.out.at1)
    | (go_at_call 26; refine (HF4.out _ _ (by exact R3.out)).mono ?_; rintro e w4 ⟨rfl, rfl⟩)
    | (go_at_call 58; refine (HF3.out _).mono ?_; rintro e w4 ⟨rfl, rfl⟩))
  all_goals
    go_wp2_with fail
    go_ret
    exact ⟨by first | (rw [HE.out]; done) | (rw [HE.out]; rfl), B3.out.below⟩

end Go.Proofs.YtnmilfkocheaiaaGreatDoor
