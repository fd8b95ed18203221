/- The model's OptimalRun. Conditions: Sets is a slice of ints, the list one of examples. -/
import Derived.Test.YtiocaopabkbgpaaDoorZM
namespace Go.Proofs.YtiocaopabkbgpaaDoor
open Go.RowKit

set_option maxHeartbeats 1600000 in
set_option maxRecDepth 100000 in
theorem specOptimal (n : Nat) (hn : n ≤ 5) (l : List Nat) (v : Value) (x : Nat) (hx : x < 5) (w : World) (hl : l.length ≤ 32) (hpt : ∀ t ∈ l, t < 2 ^ n) (h : Rd w v (toI l)) :
    Calls Tryd.prog 75 #[v, .int .i64 (n : Int), .int .i64 (x : Int)] w fun e w' => e = .returned (.bool (gOpt l x)) ∧ Below w.heap.size w w' := by
  have H := Lib.hid h
  have h32 : ∀ t ∈ l, t < 32 := fun t ht => Nat.lt_of_lt_of_le (hpt t ht) (pow_le_32 hn)
  have hl1 := List.length_filter_le (fun s => hasX x s) l
  have hl2 := List.length_filter_le (fun s => !hasX x s) l
  have HY := Lib.hid (fun w h => specYes v l x hx h32 hl w h)
  have HN := Lib.hid (fun w h => specNo v l x hx h32 hl w h)
  have HL1 := Lib.hid (fun v w h => specLittlestone n hn (wth x l) v w (by unfold wth; omega) (wth_pts hpt) h)
  have HL2 := Lib.hid (fun v w h => specLittlestone n hn (wto x l) v w (by unfold wto; omega) (wto_pts hpt) h)
  rw [gOpt]
  clear hl1 hl2 h32 hpt
  generalize mst (wth x l) = D1 at *
  generalize mst (wto x l) = D2 at *
  generalize wth x l = l1 at *
  generalize wto x l = l2 at *
  obtain ⟨a, b, off, cap, rfl, _, _, _⟩ := h
  go_enter Tryd.func75, Tryd.ntmps75
  go_wp2_with fail
  refine (HY.out _ H.out).mono ?_
  rintro e w1 ⟨a1, c1, rfl, hin1, hb1⟩
  have R1 := Lib.hid hin1.rd
  have H1 := Lib.hid (H.out.below hb1 (Nat.le_refl _))
  have B1 := Lib.hid hb1
  clear hin1 hb1
  go_wp2_with fail
  refine (HL1.out _ _ R1.out).mono ?_
  rintro e w2 ⟨rfl, hb2⟩
  have H2 := Lib.hid (H1.out.below hb2 (Nat.le_refl _))
  have B2 := Lib.hid (B1.out.trans (hb2.mono B1.out.size))
  clear hb2
  go_wp2_with fail
  refine (HN.out _ H2.out).mono ?_
  rintro e w3 ⟨a3, c3, rfl, hin3, hb3⟩
  have R3 := Lib.hid hin3.rd
  have B3 := Lib.hid (B2.out.trans (hb3.mono B2.out.size))
  clear hin3 hb3
  go_wp2_with fail
  refine (HL2.out _ _ R3.out).mono ?_
  rintro e w4 ⟨rfl, hb4⟩
  have B4 := Lib.hid (B3.out.trans (hb4.mono B3.out.size))
  clear hb4
  go_wp2_with fail
  go_ret
  exact ⟨rfl, B4.out⟩

set_option maxHeartbeats 6400000 in
set_option maxRecDepth 100000 in
theorem specOptimalRun (n : Int) (v : Value) (zs : List Int) (u : Value) (es : List (Int × Bool)) (w : World) (h : Rd w v zs) (hu : RdE w u es) :
    Calls Tryd.prog 28 #[.agg #[.int .i64 n, v], u] w fun e w' => e = .returned (.int .i64 (runB gOpt n zs es)) ∧ Below w.heap.size w w' := by
  have H := Lib.hid h
  have HU := Lib.hid hu
  obtain ⟨a, b, off, cap, rfl, _, _, _⟩ := h
  obtain ⟨a2, b2, off2, cap2, rfl, he1, _, he5⟩ := hu
  have HE1 := Lib.hid he1
  have HE5 := Lib.hid he5
  clear he1 he5
  have B0 := Lib.hid (Box.made n (.slice a zs.length cap) w 25)
  by_cases hvd : vldB n zs = true
  · obtain ⟨m, ns, rfl, rfl, hc⟩ := vldB_cls hvd
    have hm := hc.pts
    have HC := Lib.hid hc
    have HV := Lib.hid hvd
    have hl := hc.length
    rw [toI_length] at H B0 ⊢
    by_cases hv : (decide (es.length ≤ 12) && ptsTo m es es.length) = true
    · have hpt : ptsTo m es es.length = true := by simp only [Bool.and_eq_true] at hv; exact hv.2
      have h12 : es.length ≤ 12 := by simp only [Bool.and_eq_true, decide_eq_true_eq] at hv; exact hv.1
      have HVV := Lib.hid hv
      have HP := Lib.hid hpt
      have HT := Lib.hid (show runB gOpt m (toI ns) es = misTo gOpt ns es es.length by rw [runB, if_pos (by rw [vsB_in hvd]; exact hv), toNat_toI])
      clear hv hvd hpt hc
      go_enter Tryd.func28, Tryd.ntmps28
      go_wp2_with fail
      refine (specValid m _ (toI ns) _ (H.out.below (k := w.heap.size) (by go_grown) (Nat.le_refl _))).mono ?_
      rintro e w1 ⟨rfl, hb⟩
      rw [HV.out]
      have hs1 : w.heap.size < w1.heap.size := by have := hb.size; simp at this; omega
      have B1 := Lib.hid (B0.out.next (by simp) hb)
      clear hb
      have R1 := Lib.hid (H.out.below B1.out.below (Nat.le_refl _))
      have U1 := Lib.hid (HU.out.below B1.out.below (Nat.le_refl _))
      have c0 := B1.out.at0
      have c1 := B1.out.at1
      go_wp2_with fail
      refine (specSample m hm _ es _ U1.out).mono ?_
      rintro e w2 ⟨rfl, rfl⟩
      rw [HVV.out]
      go_wp2_with fail
      clear c0 c1
      go_loopw [5, 6, 7] (fun mi nw i wr => ∃ (k : Nat) (a' : Option Addr) (c' : Nat), k ≤ es.length ∧ i = .int .i64 k ∧ nw = .slice a' (nowTo ns es k).length c' ∧ Rd wr (.slice a' (nowTo ns es k).length c') (toI (nowTo ns es k)) ∧ mi = .int .i64 (misTo gOpt ns es k) ∧ Below w2.heap.size w2 wr) (fun _ _ i _ => es.length - (intOf i).toNat)
      case atStart => exact ⟨0, _, _, Nat.zero_le _, rfl, rfl, R1.out, rfl, Below.refl _ _⟩
      case round =>
        obtain ⟨k, a', c', hk, rfl, rfl, hr, rfl, hbe⟩ := hrel
        have RN := Lib.hid hr
        have BR := Lib.hid (B1.out.next hs1 hbe)
        have hz := hbe.size
        have BE := Lib.hid hbe
        obtain ⟨hb0, hb1⟩ := misTo_bd gOpt ns es k
        clear hbe hr
        have hsr : w.heap.size < wr.heap.size := by omega
        have c0 := BR.out.at0
        have c1 := BR.out.at1
        by_cases hlt : k < es.length
        · obtain ⟨rfl, hbl⟩ := HE1.out (by omega)
          have hc0 := (BR.out.below.cell (p := ⟨b2, off2 + k * 2, none⟩) hbl).trans (HE5.out k hlt).1
          have hc1 := (BR.out.below.cell (p := ⟨b2, off2 + k * 2 + 1, none⟩) hbl).trans (HE5.out k hlt).2
          obtain ⟨hp0, hp1⟩ := pts_at HP.out hlt
          have HE := Lib.hid (show es.getD k (0, false) = ((es.getD k (0, false)).1, (es.getD k (0, false)).2) from rfl)
          have HNS := Lib.hid (show nowTo ns es (k + 1) = kp (nowTo ns es k) (es.getD k (0, false)) from rfl)
          have HMS := Lib.hid (show misTo gOpt ns es (k + 1) = misTo gOpt ns es k + (if gOpt (nowTo ns es k) (es.getD k (0, false)).1.toNat = (es.getD k (0, false)).2 then 0 else 1) from rfl)
          obtain ⟨hsub, hln⟩ := nowTo_sub ns es k
          have HSub := Lib.hid (fun t ht => HC.out.lt t (hsub t ht))
          have HSub32 := Lib.hid (fun t ht => HC.out.lt32 t (hsub t ht))
          clear hsub
          rw [HE.out] at HNS
          obtain ⟨x, hx⟩ := Int.eq_ofNat_of_zero_le hp0
          rw [hx] at hc0 hp0 hp1 HNS HMS
          rw [Int.toNat_natCast] at HMS
          generalize (es.getD k (0, false)).2 = lb at *
          have hx5 : x < 5 := by omega
          have hkI : (k : Int) < (es.length : Int) := by omega
          clear hx HE
          have HKP := Lib.hid (show kp (nowTo ns es k) ((x : Int), lb) = (nowTo ns es k).filter (fun s => hasX x s == lb) by unfold kp; rw [Int.toNat_natCast])
          generalize nowTo ns es k = L at *
          generalize misTo gOpt ns es k = M at *
          have HG := Lib.hid (fun v w h => specOptimal m hm L v x hx5 w (by omega) HSub.out h)
          have HF := Lib.hid (fun v w h => specKeep v L x lb hx5 HSub32.out (by omega) w h)
          rw [← HKP.out] at HF
          generalize gOpt L x = gg at *
          cases gg
          · cases lb
            · go_wp2_with fail
              go_region_held3 (fun w' => w'.cell? ⟨w.heap.size, 0, none⟩ = some (.int .i64 (m : Int)) ∧ w'.cell? ⟨b2, off2 + k * 2, none⟩ = some (.int .i64 (x : Int)) ∧ w'.cell? ⟨b2, off2 + k * 2 + 1, none⟩ = some (.bool false)) (first | exact ⟨c0, hc0, hc1⟩ | exact ⟨f0, f1, f2⟩ | go_keep) (first | (go_at_call 75; refine (HG.out _ _ (by first | exact RN.out | exact RN.out.below (k := wr.heap.size) (by go_grown) (Nat.le_refl _))).mono ?_; rintro e w4 ⟨rfl, hb4⟩; have hb34 : Below wr.heap.size wr w4 := Below.trans (by first | exact Below.refl _ _ | exact (Below.refl _ _).drew) hb4; have B4 := Lib.hid hb34; have f0 := (hb34.cell (p := ⟨w.heap.size, 0, none⟩) hsr).trans c0; have f1 := (hb34.cell (p := ⟨b2, off2 + k * 2, none⟩) (by show b2 < wr.heap.size; omega)).trans hc0; have f2 := (hb34.cell (p := ⟨b2, off2 + k * 2 + 1, none⟩) (by show b2 < wr.heap.size; omega)).trans hc1; clear hb4 hb34))
              have RN4 := Lib.hid (RN.out.below B4.out (Nat.le_refl _))
              have hz4 := B4.out.size
              go_wp2_with fail
              refine (HF.out _ _ RN4.out).mono ?_
              rintro e w6 ⟨a6, c6, rfl, hin6, hb6⟩
              have R6 := Lib.hid hin6.rd
              have B6 := Lib.hid (B4.out.trans (hb6.mono hz4))
              rw [toI_length] at R6 ⊢
              clear hin6 hb6
              go_wp2_with fail
              go_roundw
              case rel => exact ⟨k + 1, a6, c6, by omega, by go_num, by rw [HNS.out], by rw [HNS.out]; exact R6.out, by rw [HMS.out]; simp, BE.out.trans (B6.out.mono hz)⟩
              case measure => simp [intOf]; omega
            · go_wp2_with fail
              go_region_held3 (fun w' => w'.cell? ⟨w.heap.size, 0, none⟩ = some (.int .i64 (m : Int)) ∧ w'.cell? ⟨b2, off2 + k * 2, none⟩ = some (.int .i64 (x : Int)) ∧ w'.cell? ⟨b2, off2 + k * 2 + 1, none⟩ = some (.bool true)) (first | exact ⟨c0, hc0, hc1⟩ | exact ⟨f0, f1, f2⟩ | go_keep) (first | (go_at_call 75; refine (HG.out _ _ (by first | exact RN.out | exact RN.out.below (k := wr.heap.size) (by go_grown) (Nat.le_refl _))).mono ?_; rintro e w4 ⟨rfl, hb4⟩; have hb34 : Below wr.heap.size wr w4 := Below.trans (by first | exact Below.refl _ _ | exact (Below.refl _ _).drew) hb4; have B4 := Lib.hid hb34; have f0 := (hb34.cell (p := ⟨w.heap.size, 0, none⟩) hsr).trans c0; have f1 := (hb34.cell (p := ⟨b2, off2 + k * 2, none⟩) (by show b2 < wr.heap.size; omega)).trans hc0; have f2 := (hb34.cell (p := ⟨b2, off2 + k * 2 + 1, none⟩) (by show b2 < wr.heap.size; omega)).trans hc1; clear hb4 hb34))
              have RN4 := Lib.hid (RN.out.below B4.out (Nat.le_refl _))
              have hz4 := B4.out.size
              go_wp2_with fail
              refine (HF.out _ _ RN4.out).mono ?_
              rintro e w6 ⟨a6, c6, rfl, hin6, hb6⟩
              have R6 := Lib.hid hin6.rd
              have B6 := Lib.hid (B4.out.trans (hb6.mono hz4))
              rw [toI_length] at R6 ⊢
              clear hin6 hb6
              go_wp2_with fail
              go_roundw
              case rel => exact ⟨k + 1, a6, c6, by omega, by go_num, by rw [HNS.out], by rw [HNS.out]; exact R6.out, by rw [HMS.out]; simp, BE.out.trans (B6.out.mono hz)⟩
              case measure => simp [intOf]; omega
          · cases lb
            · go_wp2_with fail
              go_region_held3 (fun w' => w'.cell? ⟨w.heap.size, 0, none⟩ = some (.int .i64 (m : Int)) ∧ w'.cell? ⟨b2, off2 + k * 2, none⟩ = some (.int .i64 (x : Int)) ∧ w'.cell? ⟨b2, off2 + k * 2 + 1, none⟩ = some (.bool false)) (first | exact ⟨c0, hc0, hc1⟩ | exact ⟨f0, f1, f2⟩ | go_keep) (first | (go_at_call 75; refine (HG.out _ _ (by first | exact RN.out | exact RN.out.below (k := wr.heap.size) (by go_grown) (Nat.le_refl _))).mono ?_; rintro e w4 ⟨rfl, hb4⟩; have hb34 : Below wr.heap.size wr w4 := Below.trans (by first | exact Below.refl _ _ | exact (Below.refl _ _).drew) hb4; have B4 := Lib.hid hb34; have f0 := (hb34.cell (p := ⟨w.heap.size, 0, none⟩) hsr).trans c0; have f1 := (hb34.cell (p := ⟨b2, off2 + k * 2, none⟩) (by show b2 < wr.heap.size; omega)).trans hc0; have f2 := (hb34.cell (p := ⟨b2, off2 + k * 2 + 1, none⟩) (by show b2 < wr.heap.size; omega)).trans hc1; clear hb4 hb34))
              have RN4 := Lib.hid (RN.out.below B4.out (Nat.le_refl _))
              have hz4 := B4.out.size
              go_wp2_with fail
              refine (HF.out _ _ RN4.out).mono ?_
              rintro e w6 ⟨a6, c6, rfl, hin6, hb6⟩
              have R6 := Lib.hid hin6.rd
              have B6 := Lib.hid (B4.out.trans (hb6.mono hz4))
              rw [toI_length] at R6 ⊢
              clear hin6 hb6
              go_wp2_with fail
              go_roundw
              case rel => exact ⟨k + 1, a6, c6, by omega, by go_num, by rw [HNS.out], by rw [HNS.out]; exact R6.out, by rw [HMS.out]; simp, BE.out.trans (B6.out.mono hz)⟩
              case measure => simp [intOf]; omega
            · go_wp2_with fail
              go_region_held3 (fun w' => w'.cell? ⟨w.heap.size, 0, none⟩ = some (.int .i64 (m : Int)) ∧ w'.cell? ⟨b2, off2 + k * 2, none⟩ = some (.int .i64 (x : Int)) ∧ w'.cell? ⟨b2, off2 + k * 2 + 1, none⟩ = some (.bool true)) (first | exact ⟨c0, hc0, hc1⟩ | exact ⟨f0, f1, f2⟩ | go_keep) (first | (go_at_call 75; refine (HG.out _ _ (by first | exact RN.out | exact RN.out.below (k := wr.heap.size) (by go_grown) (Nat.le_refl _))).mono ?_; rintro e w4 ⟨rfl, hb4⟩; have hb34 : Below wr.heap.size wr w4 := Below.trans (by first | exact Below.refl _ _ | exact (Below.refl _ _).drew) hb4; have B4 := Lib.hid hb34; have f0 := (hb34.cell (p := ⟨w.heap.size, 0, none⟩) hsr).trans c0; have f1 := (hb34.cell (p := ⟨b2, off2 + k * 2, none⟩) (by show b2 < wr.heap.size; omega)).trans hc0; have f2 := (hb34.cell (p := ⟨b2, off2 + k * 2 + 1, none⟩) (by show b2 < wr.heap.size; omega)).trans hc1; clear hb4 hb34))
              have RN4 := Lib.hid (RN.out.below B4.out (Nat.le_refl _))
              have hz4 := B4.out.size
              go_wp2_with fail
              refine (HF.out _ _ RN4.out).mono ?_
              rintro e w6 ⟨a6, c6, rfl, hin6, hb6⟩
              have R6 := Lib.hid hin6.rd
              have B6 := Lib.hid (B4.out.trans (hb6.mono hz4))
              rw [toI_length] at R6 ⊢
              clear hin6 hb6
              go_wp2_with fail
              go_roundw
              case rel => exact ⟨k + 1, a6, c6, by omega, by go_num, by rw [HNS.out], by rw [HNS.out]; exact R6.out, by rw [HMS.out]; simp, BE.out.trans (B6.out.mono hz)⟩
              case measure => simp [intOf]; omega
        · obtain rfl : k = es.length := by omega
          go_wp2_with fail
          go_ret
          exact ⟨ret_int HT.out.symm, BR.out.below⟩
    · have HT := Lib.hid (show runB gOpt m (toI ns) es = -1 by rw [runB, if_neg (by rw [vsB_in hvd]; exact hv)])
      rw [Bool.not_eq_true] at hv
      have HVV := Lib.hid hv
      clear hv hvd hc
      go_enter Tryd.func28, Tryd.ntmps28
      go_wp2_with fail
      refine (specValid m _ (toI ns) _ (H.out.below (k := w.heap.size) (by go_grown) (Nat.le_refl _))).mono ?_
      rintro e w1 ⟨rfl, hb⟩
      rw [HV.out]
      have B1 := Lib.hid (B0.out.next (by simp) hb)
      clear hb
      have U1 := Lib.hid (HU.out.below B1.out.below (Nat.le_refl _))
      have c0 := B1.out.at0
      have c1 := B1.out.at1
      go_wp2_with fail
      refine (specSample m hm _ es _ U1.out).mono ?_
      rintro e w2 ⟨rfl, rfl⟩
      rw [HVV.out]
      go_wp2_with fail
      go_ret
      exact ⟨ret_int HT.out.symm, B1.out.below⟩
  · have HT := Lib.hid (show runB gOpt n zs es = -1 by rw [runB, if_neg (by rw [vsB]; simp [hvd])])
    rw [Bool.not_eq_true] at hvd
    have HV := Lib.hid hvd
    clear hvd
    go_enter Tryd.func28, Tryd.ntmps28
    go_wp2_with fail
    refine (specValid n _ zs _ (H.out.below (k := w.heap.size) (by go_grown) (Nat.le_refl _))).mono ?_
    rintro e w1 ⟨rfl, hb⟩
    rw [HV.out]
    have B1 := Lib.hid (B0.out.next (by simp) hb)
    clear hb
    go_wp2_with fail
    go_ret
    exact ⟨ret_int HT.out.symm, B1.out.below⟩

end Go.Proofs.YtiocaopabkbgpaaDoor
