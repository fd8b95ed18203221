/- HalvingRun, the program's. Conditions: Sets is a slice of ints, the list one of examples; the table setsWith is laid. -/
import Derived.Test.YtiocaopabkbgpaaDoorGuessH
import Derived.Test.YtiocaopabkbgpaaDoorZM
namespace Go.Proofs.YtiocaopabkbgpaaDoor
open Go.RowKit

theorem nowTo_nd {ns : List Nat} (h : ns.Nodup) (es : List (Int × Bool)) (k : Nat) : (nowTo ns es k).Nodup := by
  induction k with
  | zero => exact h
  | succ k ih => exact ih.filter _

set_option maxHeartbeats 6400000 in
set_option maxRecDepth 100000 in
theorem implMistakesHal (n : Int) (v : Value) (zs : List Int) (u : Value) (es : List (Int × Bool)) (w : World) (h : Rd w v zs) (hu : RdE w u es) (hsw : SW w) :
    Calls Tryd.prog 70 #[.iface 77 (.agg #[]), .agg #[.int .i64 n, v], u] w fun e w' => e = .returned (.int .i64 (runB gHal n zs es)) ∧ Below w.heap.size w w' := by
  have H := Lib.hid h
  have HU := Lib.hid hu
  have HSW := Lib.hid hsw
  have HVS := Lib.hid (fun w h hu => implValidSample n v zs u es w h hu)
  obtain ⟨a, b, off, cap, rfl, _, _, _⟩ := h
  obtain ⟨a2, b2, off2, cap2, rfl, he1, _, he5⟩ := hu
  have HE1 := Lib.hid he1
  have HE5 := Lib.hid he5
  clear he1 he5 hsw
  have B0 := Lib.hid (Box.made n (.slice a zs.length cap) w 25)
  by_cases hv : vsB n zs es = true
  · have hvd : vldB n zs = true := by simp only [vsB, Bool.and_eq_true] at hv; exact hv.1
    have hpt : ptsTo n es es.length = true := by simp only [vsB, Bool.and_eq_true] at hv; exact hv.2.2
    have h12 : es.length ≤ 12 := by simp only [vsB, Bool.and_eq_true, decide_eq_true_eq] at hv; exact hv.2.1
    have HV := Lib.hid hv
    obtain ⟨m, ns, rfl, rfl, hc⟩ := vldB_cls hvd
    have hm := hc.pts
    have HC := Lib.hid hc
    have hl := hc.length
    have HP := Lib.hid hpt
    have HT := Lib.hid (show runB gHal m (toI ns) es = misTo gHal ns es es.length by rw [runB, if_pos hv, toNat_toI])
    rw [toI_length] at H B0 HVS ⊢
    clear hv hvd hpt hc
    go_enter Tryd.func70, Tryd.ntmps70
    go_wp2_with fail
    refine (HVS.out _ (H.out.below (k := w.heap.size) (by go_grown) (Nat.le_refl _)) (HU.out.below (k := w.heap.size) (by go_grown) (Nat.le_refl _))).mono ?_
    rintro e w1 ⟨rfl, hb⟩
    rw [HV.out]
    have hs1 : w.heap.size < w1.heap.size := by have := hb.size; simp at this; omega
    have B1 := Lib.hid (B0.out.next (by simp) hb)
    clear hb
    have R1 := Lib.hid (H.out.below B1.out.below (Nat.le_refl _))
    have c0 := B1.out.at0
    have c1 := B1.out.at1
    go_wp2_with fail
    refine (implFamilyOf m _ ns HC.out.lt32 _ R1.out).mono ?_
    rintro e w2 ⟨rfl, hb2⟩
    have B2 := Lib.hid (B1.out.next hs1 hb2)
    have hz2 := hb2.size
    clear hb2 c0 c1
    go_wp2_with fail
    go_loopw [7, 8, 19] (fun f mi i wr => ∃ k : Nat, k ≤ es.length ∧ i = .int .i64 k ∧ f = .int .u32 (fm (nowTo ns es k)) ∧ mi = .int .i64 (misTo gHal ns es k) ∧ Below w.heap.size w wr) (fun _ _ i _ => es.length - (intOf i).toNat)
    case atStart => exact ⟨0, Nat.zero_le _, rfl, rfl, rfl, B2.out.below⟩
    case round =>
      obtain ⟨k, hk, rfl, rfl, rfl, hbe⟩ := hrel
      have BE := Lib.hid hbe
      have hz := hbe.size
      have SW2 := Lib.hid (HSW.out.next hbe)
      obtain ⟨hb0, hb1⟩ := misTo_bd gHal ns es k
      clear hbe
      by_cases hlt : k < es.length
      · obtain ⟨rfl, hbl⟩ := HE1.out (by omega)
        have hc0 := (BE.out.cell (p := ⟨b2, off2 + k * 2, none⟩) hbl).trans (HE5.out k hlt).1
        have hc1 := (BE.out.cell (p := ⟨b2, off2 + k * 2 + 1, none⟩) hbl).trans (HE5.out k hlt).2
        obtain ⟨hp0, hp1⟩ := pts_at HP.out hlt
        have HE := Lib.hid (show es.getD k (0, false) = ((es.getD k (0, false)).1, (es.getD k (0, false)).2) from rfl)
        have HNS := Lib.hid (show nowTo ns es (k + 1) = kp (nowTo ns es k) (es.getD k (0, false)) from rfl)
        have HMS := Lib.hid (show misTo gHal ns es (k + 1) = misTo gHal ns es k + (if gHal (nowTo ns es k) (es.getD k (0, false)).1.toNat = (es.getD k (0, false)).2 then 0 else 1) from rfl)
        obtain ⟨hsub, hln⟩ := nowTo_sub ns es k
        have HNd := Lib.hid (nowTo_nd HC.out.nodup es k)
        have HSub := Lib.hid (fun t ht => HC.out.lt32 t (hsub t ht))
        clear hsub
        rw [HE.out] at HNS
        obtain ⟨x, hx⟩ := Int.eq_ofNat_of_zero_le hp0
        rw [hx] at hc0 hp0 hp1 HNS HMS
        rw [Int.toNat_natCast] at HMS
        generalize (es.getD k (0, false)).2 = lb at *
        have hx5 : x < 5 := by omega
        clear hx HE
        generalize nowTo ns es k = L at *
        generalize misTo gHal ns es k = M at *
        have HG := Lib.hid (fun w h => implGuessHal L x hx5 HSub.out HNd.out w h)
        have HF := Lib.hid (fun w h => implFitting L x lb hx5 w h)
        generalize gHal L x = gg at *
        have EX := Lib.hid (show Below wr.heap.size wr (wr.alloc (Obj.cells #[.int .i64 (x : Int), .bool lb] 59)) from (Below.refl _ _).alloc (Nat.le_refl _) _)
        have EZ := Lib.hid (show wr.heap.size < (wr.alloc (Obj.cells #[.int .i64 (x : Int), .bool lb] 59)).heap.size by simp)
        have e0 := (show (wr.alloc (Obj.cells #[.int .i64 (x : Int), .bool lb] 59)).cell? ⟨wr.heap.size, 0, none⟩ = some (.int .i64 (x : Int)) by simp [go_sem])
        have e1 := (show (wr.alloc (Obj.cells #[.int .i64 (x : Int), .bool lb] 59)).cell? ⟨wr.heap.size, 1, none⟩ = some (.bool lb) by simp [go_sem])
        have HSE := Lib.hid (SW2.out.next EX.out)
        cases gg
        · cases lb
          · go_wp2_with fail
            generalize (wr.alloc (Obj.cells #[.int .i64 (x : Int), .bool false] 59)) = we at *
            go_region_held3 (fun w' => w'.cell? ⟨wr.heap.size, 0, none⟩ = some (.int .i64 (x : Int)) ∧ w'.cell? ⟨wr.heap.size, 1, none⟩ = some (.bool false)) (first | exact ⟨e0, e1⟩ | exact ⟨f0, f1⟩ | go_keep) (first | (go_at_call 147; refine (HG.out _ (by first | exact HSE.out | exact SW.heap HSE.out rfl)).mono ?_; rintro e w4 ⟨rfl, hb4⟩; have B4 := Lib.hid (show Below we.heap.size we w4 from Below.trans (by first | exact Below.refl _ _ | exact (Below.refl _ _).drew) hb4); have f0 := (B4.out.cell (p := ⟨wr.heap.size, 0, none⟩) EZ.out).trans e0; have f1 := (B4.out.cell (p := ⟨wr.heap.size, 1, none⟩) EZ.out).trans e1; clear hb4))
            have B5 := Lib.hid (show Below wr.heap.size wr w4 from EX.out.trans (B4.out.mono (Nat.le_of_lt EZ.out)))
            have hz5 := B5.out.size
            clear e0 e1
            go_wp2_with fail
            refine (HF.out _ (SW2.out.next B5.out)).mono ?_
            rintro e w6 ⟨rfl, hb6⟩
            have B6 := Lib.hid (B5.out.trans (hb6.mono hz5))
            clear hb6
            go_wp2_with fail
            go_roundw
            case rel => exact ⟨k + 1, by omega, by go_num, by rw [HNS.out], by rw [HMS.out]; simp, BE.out.trans (B6.out.mono hz)⟩
            case measure => simp [intOf]; omega
          · go_wp2_with fail
            generalize (wr.alloc (Obj.cells #[.int .i64 (x : Int), .bool true] 59)) = we at *
            go_region_held3 (fun w' => w'.cell? ⟨wr.heap.size, 0, none⟩ = some (.int .i64 (x : Int)) ∧ w'.cell? ⟨wr.heap.size, 1, none⟩ = some (.bool true)) (first | exact ⟨e0, e1⟩ | exact ⟨f0, f1⟩ | go_keep) (first | (go_at_call 147; refine (HG.out _ (by first | exact HSE.out | exact SW.heap HSE.out rfl)).mono ?_; rintro e w4 ⟨rfl, hb4⟩; have B4 := Lib.hid (show Below we.heap.size we w4 from Below.trans (by first | exact Below.refl _ _ | exact (Below.refl _ _).drew) hb4); have f0 := (B4.out.cell (p := ⟨wr.heap.size, 0, none⟩) EZ.out).trans e0; have f1 := (B4.out.cell (p := ⟨wr.heap.size, 1, none⟩) EZ.out).trans e1; clear hb4))
            have B5 := Lib.hid (show Below wr.heap.size wr w4 from EX.out.trans (B4.out.mono (Nat.le_of_lt EZ.out)))
            have hz5 := B5.out.size
            clear e0 e1
            go_wp2_with fail
            refine (HF.out _ (SW2.out.next B5.out)).mono ?_
            rintro e w6 ⟨rfl, hb6⟩
            have B6 := Lib.hid (B5.out.trans (hb6.mono hz5))
            clear hb6
            go_wp2_with fail
            go_roundw
            case rel => exact ⟨k + 1, by omega, by go_num, by rw [HNS.out], by rw [HMS.out]; simp, BE.out.trans (B6.out.mono hz)⟩
            case measure => simp [intOf]; omega
        · cases lb
          · go_wp2_with fail
            generalize (wr.alloc (Obj.cells #[.int .i64 (x : Int), .bool false] 59)) = we at *
            go_region_held3 (fun w' => w'.cell? ⟨wr.heap.size, 0, none⟩ = some (.int .i64 (x : Int)) ∧ w'.cell? ⟨wr.heap.size, 1, none⟩ = some (.bool false)) (first | exact ⟨e0, e1⟩ | exact ⟨f0, f1⟩ | go_keep) (first | (go_at_call 147; refine (HG.out _ (by first | exact HSE.out | exact SW.heap HSE.out rfl)).mono ?_; rintro e w4 ⟨rfl, hb4⟩; have B4 := Lib.hid (show Below we.heap.size we w4 from Below.trans (by first | exact Below.refl _ _ | exact (Below.refl _ _).drew) hb4); have f0 := (B4.out.cell (p := ⟨wr.heap.size, 0, none⟩) EZ.out).trans e0; have f1 := (B4.out.cell (p := ⟨wr.heap.size, 1, none⟩) EZ.out).trans e1; clear hb4))
            have B5 := Lib.hid (show Below wr.heap.size wr w4 from EX.out.trans (B4.out.mono (Nat.le_of_lt EZ.out)))
            have hz5 := B5.out.size
            clear e0 e1
            go_wp2_with fail
            refine (HF.out _ (SW2.out.next B5.out)).mono ?_
            rintro e w6 ⟨rfl, hb6⟩
            have B6 := Lib.hid (B5.out.trans (hb6.mono hz5))
            clear hb6
            go_wp2_with fail
            go_roundw
            case rel => exact ⟨k + 1, by omega, by go_num, by rw [HNS.out], by rw [HMS.out]; simp, BE.out.trans (B6.out.mono hz)⟩
            case measure => simp [intOf]; omega
          · go_wp2_with fail
            generalize (wr.alloc (Obj.cells #[.int .i64 (x : Int), .bool true] 59)) = we at *
            go_region_held3 (fun w' => w'.cell? ⟨wr.heap.size, 0, none⟩ = some (.int .i64 (x : Int)) ∧ w'.cell? ⟨wr.heap.size, 1, none⟩ = some (.bool true)) (first | exact ⟨e0, e1⟩ | exact ⟨f0, f1⟩ | go_keep) (first | (go_at_call 147; refine (HG.out _ (by first | exact HSE.out | exact SW.heap HSE.out rfl)).mono ?_; rintro e w4 ⟨rfl, hb4⟩; have B4 := Lib.hid (show Below we.heap.size we w4 from Below.trans (by first | exact Below.refl _ _ | exact (Below.refl _ _).drew) hb4); have f0 := (B4.out.cell (p := ⟨wr.heap.size, 0, none⟩) EZ.out).trans e0; have f1 := (B4.out.cell (p := ⟨wr.heap.size, 1, none⟩) EZ.out).trans e1; clear hb4))
            have B5 := Lib.hid (show Below wr.heap.size wr w4 from EX.out.trans (B4.out.mono (Nat.le_of_lt EZ.out)))
            have hz5 := B5.out.size
            clear e0 e1
            go_wp2_with fail
            refine (HF.out _ (SW2.out.next B5.out)).mono ?_
            rintro e w6 ⟨rfl, hb6⟩
            have B6 := Lib.hid (B5.out.trans (hb6.mono hz5))
            clear hb6
            go_wp2_with fail
            go_roundw
            case rel => exact ⟨k + 1, by omega, by go_num, by rw [HNS.out], by rw [HMS.out]; simp, BE.out.trans (B6.out.mono hz)⟩
            case measure => simp [intOf]; omega
      · obtain rfl : k = es.length := by omega
        go_wp2_with fail
        go_ret
        exact ⟨ret_int HT.out.symm, BE.out⟩
  · have HT := Lib.hid (show runB gHal n zs es = -1 by rw [runB, if_neg hv])
    rw [Bool.not_eq_true] at hv
    have HV := Lib.hid hv
    clear hv
    go_enter Tryd.func70, Tryd.ntmps70
    go_wp2_with fail
    refine (HVS.out _ (H.out.below (k := w.heap.size) (by go_grown) (Nat.le_refl _)) (HU.out.below (k := w.heap.size) (by go_grown) (Nat.le_refl _))).mono ?_
    rintro e w1 ⟨rfl, hb⟩
    rw [HV.out]
    have B1 := Lib.hid (B0.out.next (by simp) hb)
    clear hb
    go_wp2_with fail
    go_ret
    exact ⟨ret_int HT.out.symm, B1.out.below⟩

set_option maxHeartbeats 800000 in
theorem implHalvingRun (n : Int) (v : Value) (zs : List Int) (u : Value) (es : List (Int × Bool)) (w : World) (h : Rd w v zs) (hu : RdE w u es) (hsw : SW w) :
    Calls Tryd.prog 24 #[.agg #[.int .i64 n, v], u] w fun e w' => e = .returned (.int .i64 (runB gHal n zs es)) ∧ Below w.heap.size w w' := by
  have HM := Lib.hid (fun w h hu hs => implMistakesHal n v zs u es w h hu hs)
  have H := Lib.hid h
  have HU := Lib.hid hu
  have HSW := Lib.hid hsw
  obtain ⟨a, b, off, cap, rfl, _, _, _⟩ := h
  obtain ⟨a2, b2, off2, cap2, rfl, _, _, _⟩ := hu
  clear hsw
  go_enter Tryd.func24, Tryd.ntmps24
  go_wp2_with fail
  refine (HM.out _ (H.out.below (k := w.heap.size) (by go_grown) (Nat.le_refl _)) (HU.out.below (k := w.heap.size) (by go_grown) (Nat.le_refl _)) (HSW.out.next (by go_grown))).mono ?_
  rintro e w1 ⟨rfl, hb⟩
  go_wp2_with fail
  go_ret
  exact ⟨rfl, Below.trans (by go_grown) (hb.mono (by simp))⟩

end Go.Proofs.YtiocaopabkbgpaaDoor
