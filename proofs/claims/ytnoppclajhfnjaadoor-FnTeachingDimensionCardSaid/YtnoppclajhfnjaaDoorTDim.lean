/- TeachingDimension and EasiestTeaching, the program's and the model's. Conditions: Sets is a slice of ints; the table setsWith is laid. -/
import Derived.Test.YtnoppclajhfnjaaDoorZX
namespace Go.Proofs.YtnoppclajhfnjaaDoor
open Go.RowKit

theorem tnsL_nat (n : Int) (zs : List Int) : natural (tnsL n zs) := fun k hk => by
  have hm : (tnsL n zs).getD k 0 ∈ tnsL n zs := by
    rw [List.getD_eq_getElem?_getD, List.getElem?_eq_getElem hk]
    exact List.getElem_mem hk
  unfold tnsL at hm ⊢
  split at hm
  · rename_i hv
    rw [if_pos hv]
    obtain ⟨u, _, e⟩ := List.mem_map.1 hm
    rw [← e]
    exact Int.natCast_nonneg _
  · simp at hm
/-- TeachingDimension's and EasiestTeaching's answers -/
def tdB (n : Int) (zs : List Int) : Int := gTo (tnsL n zs) (tnsL n zs).length
def etB (n : Int) (zs : List Int) : Int := sTo (tnsL n zs) (tnsL n zs).length

set_option maxRecDepth 100000 in
set_option maxHeartbeats 1600000 in
theorem implTeachingDimension (n : Int) (v : Value) (zs : List Int) (w : World) (h : Rd w v zs) (hsw : SW w) :
    Calls Tryd.prog 31 #[.agg #[.int .i64 n, v]] w fun e w' => e = .returned (.int .i64 (tdB n zs)) ∧ Below w.heap.size w w' := by
  have H := Lib.hid h
  have HSW := Lib.hid hsw
  clear hsw
  have HT := Lib.hid (fun w0 h0 hs0 => implTeachingNumbers n v zs w0 h0 hs0)
  have HN := Lib.hid (tnsL_nat n zs)
  have HD := Lib.hid (show tdB n zs = gTo (tnsL n zs) (tnsL n zs).length from rfl)
  have hln := tnsL_len n zs
  rw [HD.out]
  obtain ⟨a, b, off, cap, rfl, _, h3, _⟩ := h
  generalize tnsL n zs = L at *
  by_cases hL : L.length = 0
  · have HE := Lib.hid (show gTo L L.length = -1 by rw [hL]; rfl)
    rw [HE.out]
    go_enter Tryd.func31, Tryd.ntmps31
    go_wp2_with fail
    refine (HT.out _ (H.out.below (by go_grown) (Nat.le_refl _)) (HSW.out.next (by go_grown))).mono ?_
    rintro e w1 ⟨a1, c1, rfl, hin, hb⟩
    have B1 := Lib.hid ((Box.made n (.slice a zs.length cap) w _).next (by simp) hb)
    clear hb hin
    rw [hL]
    go_wp2_with fail
    go_ret
    exact ⟨rfl, B1.out.below⟩
  · have hd1 : ((L.length : Int) == 0) = false := by simpa using (show ¬ (L.length : Int) = 0 by omega)
    go_enter Tryd.func31, Tryd.ntmps31
    go_wp2_with fail
    refine (HT.out _ (H.out.below (by go_grown) (Nat.le_refl _)) (HSW.out.next (by go_grown))).mono ?_
    rintro e w1 ⟨a1, c1, rfl, hin, hb⟩
    have B1 := Lib.hid ((Box.made n (.slice a zs.length cap) w _).next (by simp) hb)
    have HM := Lib.hid (slicesMax _ L w1 hin.rd HN.out (by omega))
    clear hb hin
    go_wp2_with fail
    refine HM.out.mono ?_
    rintro e w2 ⟨rfl, rfl⟩
    go_wp2_with fail
    go_ret
    exact ⟨rfl, B1.out.below⟩

set_option maxRecDepth 100000 in
set_option maxHeartbeats 1600000 in
theorem specTeachingDimension (n : Int) (v : Value) (zs : List Int) (w : World) (h : Rd w v zs) :
    Calls Tryd.prog 32 #[.agg #[.int .i64 n, v]] w fun e w' => e = .returned (.int .i64 (tdB n zs)) ∧ Below w.heap.size w w' := by
  have H := Lib.hid h
  obtain ⟨a, b, off, cap, rfl, _, _, _⟩ := h
  have HV := Lib.hid (fun w0 h0 => specValid n (.slice a zs.length cap) zs w0 h0)
  by_cases hv : vldB n zs = true
  · obtain ⟨m, ns, rfl, rfl, hc⟩ := vldB_cls hv
    have HE := Lib.hid (fun w0 h0 => specEfforts m (.slice a (toI ns).length cap) ns w0 hc h0)
    have HD := Lib.hid (show tdB (m : Int) (toI ns) = gTo (tns m ns) (tns m ns).length by rw [tdB, tnsL_in hv])
    rw [HD.out]
    rw [hv] at HV
    clear hv hc HD
    generalize tns m ns = vs at *
    go_enter Tryd.func32, Tryd.ntmps32
    go_wp2_with fail
    refine (HV.out _ (H.out.below (by go_grown) (Nat.le_refl _))).mono ?_
    rintro e w1 ⟨rfl, hb⟩
    have B1 := Lib.hid ((Box.made (m : Int) (.slice a (toI ns).length cap) w _).next (by simp) hb)
    clear hb
    have c0 := B1.out.at0
    have c1 := B1.out.at1
    go_wp2_with fail
    refine (HE.out _ (H.out.below B1.out.below (Nat.le_refl _))).mono ?_
    rintro e w2 ⟨a2, c2, rfl, hin, hb⟩
    have HB := Lib.hid (B1.out.below.trans (hb.mono B1.out.below.size))
    have HM := Lib.hid (specGreatest _ vs w2 hin.rd)
    clear hb hin
    go_wp2_with fail
    refine HM.out.mono ?_
    rintro e w3 ⟨rfl, rfl⟩
    go_wp2_with fail
    go_ret
    exact ⟨rfl, HB.out⟩
  · rw [Bool.not_eq_true] at hv
    have HD := Lib.hid (show tdB n zs = -1 by rw [tdB, tnsL_bad hv]; rfl)
    rw [HD.out]
    rw [hv] at HV
    clear hv HD
    go_enter Tryd.func32, Tryd.ntmps32
    go_wp2_with fail
    refine (HV.out _ (H.out.below (by go_grown) (Nat.le_refl _))).mono ?_
    rintro e w1 ⟨rfl, hb⟩
    have B1 := Lib.hid ((Box.made n (.slice a zs.length cap) w _).next (by simp) hb)
    clear hb
    go_wp2_with fail
    go_ret
    exact ⟨rfl, B1.out.below⟩

set_option maxRecDepth 100000 in
set_option maxHeartbeats 1600000 in
theorem implEasiestTeaching (n : Int) (v : Value) (zs : List Int) (w : World) (h : Rd w v zs) (hsw : SW w) :
    Calls Tryd.prog 43 #[.agg #[.int .i64 n, v]] w fun e w' => e = .returned (.int .i64 (etB n zs)) ∧ Below w.heap.size w w' := by
  have H := Lib.hid h
  have HSW := Lib.hid hsw
  clear hsw
  have HT := Lib.hid (fun w0 h0 hs0 => implTeachingNumbers n v zs w0 h0 hs0)
  have HN := Lib.hid (tnsL_nat n zs)
  have HD := Lib.hid (show etB n zs = sTo (tnsL n zs) (tnsL n zs).length from rfl)
  have hln := tnsL_len n zs
  rw [HD.out]
  obtain ⟨a, b, off, cap, rfl, _, h3, _⟩ := h
  generalize tnsL n zs = L at *
  by_cases hL : L.length = 0
  · have HE := Lib.hid (show sTo L L.length = -1 by rw [hL]; rfl)
    rw [HE.out]
    go_enter Tryd.func43, Tryd.ntmps43
    go_wp2_with fail
    refine (HT.out _ (H.out.below (by go_grown) (Nat.le_refl _)) (HSW.out.next (by go_grown))).mono ?_
    rintro e w1 ⟨a1, c1, rfl, hin, hb⟩
    have B1 := Lib.hid ((Box.made n (.slice a zs.length cap) w _).next (by simp) hb)
    clear hb hin
    rw [hL]
    go_wp2_with fail
    go_ret
    exact ⟨rfl, B1.out.below⟩
  · have hd1 : ((L.length : Int) == 0) = false := by simpa using (show ¬ (L.length : Int) = 0 by omega)
    go_enter Tryd.func43, Tryd.ntmps43
    go_wp2_with fail
    refine (HT.out _ (H.out.below (by go_grown) (Nat.le_refl _)) (HSW.out.next (by go_grown))).mono ?_
    rintro e w1 ⟨a1, c1, rfl, hin, hb⟩
    have B1 := Lib.hid ((Box.made n (.slice a zs.length cap) w _).next (by simp) hb)
    have HM := Lib.hid (slicesMin _ L w1 hin.rd HN.out (by omega))
    clear hb hin
    go_wp2_with fail
    refine HM.out.mono ?_
    rintro e w2 ⟨rfl, rfl⟩
    go_wp2_with fail
    go_ret
    exact ⟨rfl, B1.out.below⟩

set_option maxRecDepth 100000 in
set_option maxHeartbeats 1600000 in
theorem specEasiestTeaching (n : Int) (v : Value) (zs : List Int) (w : World) (h : Rd w v zs) :
    Calls Tryd.prog 44 #[.agg #[.int .i64 n, v]] w fun e w' => e = .returned (.int .i64 (etB n zs)) ∧ Below w.heap.size w w' := by
  have H := Lib.hid h
  obtain ⟨a, b, off, cap, rfl, _, _, _⟩ := h
  have HV := Lib.hid (fun w0 h0 => specValid n (.slice a zs.length cap) zs w0 h0)
  by_cases hv : vldB n zs = true
  · obtain ⟨m, ns, rfl, rfl, hc⟩ := vldB_cls hv
    have HE := Lib.hid (fun w0 h0 => specEfforts m (.slice a (toI ns).length cap) ns w0 hc h0)
    have HD := Lib.hid (show etB (m : Int) (toI ns) = sTo (tns m ns) (tns m ns).length by rw [etB, tnsL_in hv])
    rw [HD.out]
    rw [hv] at HV
    clear hv hc HD
    generalize tns m ns = vs at *
    go_enter Tryd.func44, Tryd.ntmps44
    go_wp2_with fail
    refine (HV.out _ (H.out.below (by go_grown) (Nat.le_refl _))).mono ?_
    rintro e w1 ⟨rfl, hb⟩
    have B1 := Lib.hid ((Box.made (m : Int) (.slice a (toI ns).length cap) w _).next (by simp) hb)
    clear hb
    have c0 := B1.out.at0
    have c1 := B1.out.at1
    go_wp2_with fail
    refine (HE.out _ (H.out.below B1.out.below (Nat.le_refl _))).mono ?_
    rintro e w2 ⟨a2, c2, rfl, hin, hb⟩
    have HB := Lib.hid (B1.out.below.trans (hb.mono B1.out.below.size))
    have HM := Lib.hid (specSmallest _ vs w2 hin.rd)
    clear hb hin
    go_wp2_with fail
    refine HM.out.mono ?_
    rintro e w3 ⟨rfl, rfl⟩
    go_wp2_with fail
    go_ret
    exact ⟨rfl, HB.out⟩
  · rw [Bool.not_eq_true] at hv
    have HD := Lib.hid (show etB n zs = -1 by rw [etB, tnsL_bad hv]; rfl)
    rw [HD.out]
    rw [hv] at HV
    clear hv HD
    go_enter Tryd.func44, Tryd.ntmps44
    go_wp2_with fail
    refine (HV.out _ (H.out.below (by go_grown) (Nat.le_refl _))).mono ?_
    rintro e w1 ⟨rfl, hb⟩
    have B1 := Lib.hid ((Box.made n (.slice a zs.length cap) w _).next (by simp) hb)
    clear hb
    go_wp2_with fail
    go_ret
    exact ⟨rfl, B1.out.below⟩

end Go.Proofs.YtnoppclajhfnjaaDoor
