/- IsExtremal, the program's and the model's. Conditions: Sets is a slice of ints. -/
import Derived.Test.YtilhbmohlcocjabVC
import Derived.Deep.RegionWith
namespace Go.Proofs.Ytilhbmohlcocjab
open Go.RowKit

def extB (n : Int) (zs : List Int) : Bool := vldB n zs && decide ((shatN n zs).length = zs.length)
theorem extB_bad {n : Int} {zs : List Int} (h : vldB n zs = false) : extB n zs = false := by simp [extB, h]
theorem extB_in {n : Int} {zs : List Int} (h : vldB n zs = true) : extB n zs = decide ((shatN n zs).length = zs.length) := by simp [extB, h]

theorem ret_dec {p q : Prop} [Decidable p] [Decidable q] (h : p ↔ q) : Ending.returned (.bool (decide p)) = .returned (.bool (decide q)) := by simp [h]

set_option maxHeartbeats 1600000 in
set_option maxRecDepth 100000 in
theorem specExtremal (m : Nat) (v : Value) (ns : List Nat) (w : World) (hc : Cls m ns) (h : Rd w v (toI ns)) :
    Calls Try.prog 45 #[.agg #[.int .i64 m, v]] w fun e w' => e = .returned (.bool (decide (((List.range (2 ^ m)).filter (sht ns)).length = ns.length))) ∧ Below w.heap.size w w' := by
  have H := Lib.hid h
  obtain ⟨a, b, off, cap, rfl, _, _, _⟩ := h
  have hl := hc.length
  have hfl := filt_le (sht ns) (2 ^ m)
  have hp32 := pow_le_32 hc.pts
  have HC := Lib.hid hc
  have HAl := Lib.hid <| toI_length ((List.range (2 ^ m)).filter (sht ns))
  have HNl := Lib.hid (toI_length ns)
  have HF := Lib.hid (fun v w h => specShatAll m v ns w hc h)
  have B1 := Lib.hid (Box.made m (.slice a (toI ns).length cap) w 27)
  have HSZ := Lib.hid (show w.heap.size < (w.alloc (Obj.cells #[.int .i64 (m : Int), .slice a (toI ns).length cap] 27)).heap.size by simp)
  have c0 := B1.out.at0
  have c1 := B1.out.at1
  clear hc
  generalize (List.range (2 ^ m)).filter (sht ns) = A at *
  go_enter Try.func45, Try.ntmps45
  go_wp2_with fail
  generalize w.alloc (Obj.cells #[.int .i64 (m : Int), .slice a (toI ns).length cap] 27) = w1 at *
  go_region_with (go_at_call 39; refine (HF.out _ _ (Rd.below H.out (by first | exact B1.out.below | exact B1.out.below.drew) (Nat.le_refl _))).mono ?_; rintro e w2 ⟨a2, c2, rfl, hin2, hb2⟩; have hb12 : Below w1.heap.size w1 w2 := Below.trans (by first | exact Below.refl _ _ | exact (Below.refl _ _).drew) hb2; clear hin2 hb2; have B2 := Lib.hid (B1.out.next HSZ.out hb12); clear hb12; rw [HAl.out]; have d0 := B2.out.at0; have d1 := B2.out.at1)
  all_goals
    go_wp2_with fail
    go_ret
    exact ⟨ret_dec (by rw [HNl.out]; omega), B2.out.below⟩

set_option maxHeartbeats 800000 in
theorem specIsExtremal (n : Int) (v : Value) (zs : List Int) (w : World) (h : Rd w v zs) :
    Calls Try.prog 17 #[.agg #[.int .i64 n, v]] w fun e w' => e = .returned (.bool (extB n zs)) ∧ Below w.heap.size w w' := by
  have H := Lib.hid h
  obtain ⟨a, b, off, cap, rfl, _, _, _⟩ := h
  by_cases hv : vldB n zs = true
  · have HE := Lib.hid (extB_in hv)
    obtain ⟨m, ns, rfl, rfl, hc⟩ := vldB_cls hv
    have HC := Lib.hid hc
    have HL := Lib.hid (shatN_in hv)
    have HNl := Lib.hid (toI_length ns)
    have HV := Lib.hid hv
    clear hv hc
    go_enter Try.func17, Try.ntmps17
    go_wp2_with fail
    refine (specValid m _ (toI ns) _ (H.out.below (k := w.heap.size) (by go_grown) (Nat.le_refl _))).mono ?_
    rintro e w1 ⟨rfl, hb⟩
    rw [HV.out]
    have B1 := Lib.hid ((Box.made m (.slice a (toI ns).length cap) w _).next (by simp) hb)
    clear hb
    have c0 := B1.out.at0
    have c1 := B1.out.at1
    go_wp2_with fail
    refine (specExtremal m _ ns _ HC.out (H.out.below B1.out.below (Nat.le_refl _))).mono ?_
    rintro e w2 ⟨rfl, hb2⟩
    have HB2 := Lib.hid (B1.out.below.trans (hb2.mono (by have := B1.out.below.size; omega)))
    clear hb2 c0 c1
    go_wp2_with fail
    go_ret
    exact ⟨by first | (rw [HE.out, HL.out, HNl.out]; done) | (rw [HE.out, HL.out, HNl.out]; rfl), HB2.out⟩
  · rw [Bool.not_eq_true] at hv
    have HT := Lib.hid (extB_bad hv)
    have HV := Lib.hid hv
    clear hv
    go_enter Try.func17, Try.ntmps17
    go_wp2_with fail
    refine (specValid n _ zs _ (H.out.below (k := w.heap.size) (by go_grown) (Nat.le_refl _))).mono ?_
    rintro e w1 ⟨rfl, hb⟩
    rw [HV.out]
    have B1 := Lib.hid ((Box.made n (.slice a zs.length cap) w _).next (by simp) hb)
    clear hb
    go_wp2_with fail
    go_ret
    exact ⟨by first | (rw [HT.out]; done) | (rw [HT.out]; rfl), B1.out.below⟩

set_option maxHeartbeats 3200000 in
set_option maxRecDepth 100000 in
theorem implIsExtremal (n : Int) (v : Value) (zs : List Int) (w : World) (h : Rd w v zs) :
    Calls Try.prog 18 #[.agg #[.int .i64 n, v]] w fun e w' => e = .returned (.bool (extB n zs)) ∧ Below w.heap.size w w' := by
  have H := Lib.hid h
  obtain ⟨a, b, off, cap, rfl, _, _, _⟩ := h
  have B1 := Lib.hid (Box.made n (.slice a zs.length cap) w 27)
  have HSZ := Lib.hid (show w.heap.size < (w.alloc (Obj.cells #[.int .i64 n, .slice a zs.length cap] 27)).heap.size by simp)
  have c0 := B1.out.at0
  have c1 := B1.out.at1
  by_cases hv : vldB n zs = true
  · have HE := Lib.hid (extB_in hv)
    have HL := Lib.hid (shatL_N n zs)
    have HF1 := Lib.hid (fun v w h => implValid n v zs w h)
    have HF2 := Lib.hid (fun v w h => implShatteredSets n v zs w h)
    have HV := Lib.hid hv
    clear hv
    have HAl := Lib.hid (toI_length (shatN n zs))
    generalize shatN n zs = A at *
    go_enter Try.func18, Try.ntmps18
    go_wp2_with fail
    generalize w.alloc (Obj.cells #[.int .i64 n, .slice a zs.length cap] 27) = w1 at *
    go_region_with (first
      | (go_at_call 41; refine (HF1.out _ _ (Rd.below H.out (by first | exact B1.out.below | exact B1.out.below.drew) (Nat.le_refl _))).mono ?_; rintro e w2 ⟨rfl, hb2⟩; rw [HV.out]; have hb12 : Below w1.heap.size w1 w2 := Below.trans (by first | exact Below.refl _ _ | exact (Below.refl _ _).drew) hb2; clear hb2; have B2 := Lib.hid (B1.out.next HSZ.out hb12); have HSZ2 := Lib.hid (Nat.lt_of_lt_of_le HSZ.out hb12.size); clear hb12; have d0 := B2.out.at0; have d1 := B2.out.at1)
      | (go_at_call 46; refine (HF2.out _ _ (Rd.below H.out (by first | exact B2.out.below | exact B2.out.below.drew) (Nat.le_refl _))).mono ?_; rintro e w3 ⟨a3, cc3, rfl, hin3, hb3⟩; have hb13 : Below w2.heap.size w2 w3 := Below.trans (by first | exact Below.refl _ _ | exact (Below.refl _ _).drew) hb3; clear hin3 hb3; have B3 := Lib.hid (B2.out.next HSZ2.out hb13); clear hb13; rw [HL.out, HAl.out]; have e0 := B3.out.at0; have e1 := B3.out.at1))
    all_goals
      go_wp2_with fail
      go_ret
      exact ⟨by rw [HE.out]; exact ret_dec (by omega), B3.out.below⟩
  · rw [Bool.not_eq_true] at hv
    have HT := Lib.hid (extB_bad hv)
    have HF1 := Lib.hid (fun v w h => implValid n v zs w h)
    have HV := Lib.hid hv
    clear hv
    go_enter Try.func18, Try.ntmps18
    go_wp2_with fail
    generalize w.alloc (Obj.cells #[.int .i64 n, .slice a zs.length cap] 27) = w1 at *
    first
      | go_region_with (go_at_call 41; refine (HF1.out _ _ (Rd.below H.out (by first | exact B1.out.below | exact B1.out.below.drew) (Nat.le_refl _))).mono ?_; rintro e w2 ⟨rfl, hb2⟩; rw [HV.out]; have hb12 : Below w1.heap.size w1 w2 := Below.trans (by first | exact Below.refl _ _ | exact (Below.refl _ _).drew) hb2; clear hb2; have B2 := Lib.hid (B1.out.next HSZ.out hb12); clear hb12)
      | fail
    all_goals
      go_wp2_with fail
      go_ret
      exact ⟨by first | (rw [HT.out]; done) | (rw [HT.out]; rfl), B2.out.below⟩

end Go.Proofs.Ytilhbmohlcocjab
