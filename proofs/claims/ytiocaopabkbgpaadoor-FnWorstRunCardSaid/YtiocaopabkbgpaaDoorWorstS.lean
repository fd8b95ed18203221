/- WorstRun, the model's. Conditions: Sets is a slice of ints. -/
import Derived.Test.YtiocaopabkbgpaaDoorWorst
import Derived.Test.YtiocaopabkbgpaaDoorZL
namespace Go.Proofs.YtiocaopabkbgpaaDoor
open Go.RowKit

theorem Rd.kept {w w' : World} {a : Option Addr} {n c : Nat} {xs : List Int} {r : Option Nat} (h : Rd w (.slice a n c) xs) (hg : w.grownBy w' r) (hne : ∀ b o, 0 < xs.length → a = some ⟨b, o, none⟩ → some b ≠ r) : Rd w' (.slice a n c) xs := by
  obtain ⟨a', b, off, cap, e, h1, h3, h5⟩ := h
  simp only [Value.slice.injEq] at e
  obtain ⟨rfl, rfl, rfl⟩ := e
  refine ⟨a, b, off, c, rfl, fun h => ⟨(h1 h).1, Nat.lt_of_lt_of_le (h1 h).2 hg.size⟩, h3, fun j hj => ?_⟩
  have hb := h1 (by omega)
  have := hg.block b hb.2 (hne b off (by omega) hb.1)
  exact (World.cell?_of_block (w := w) (a := ⟨b, off + j, none⟩) this).trans (h5 j hj)

set_option maxHeartbeats 12800000 in
set_option maxRecDepth 100000 in
theorem specWorstRun (n : Int) (v : Value) (zs : List Int) (w : World) (h : Rd w v zs) :
    Calls Tryd.prog 41 #[.agg #[.int .i64 n, v]] w (RetEx (worL n zs) w) := by
  have H := Lib.hid h
  obtain ⟨a, b, off, cap, rfl, hr1, _, _⟩ := h
  have HR1 := Lib.hid hr1
  clear hr1
  have B0 := Lib.hid (Box.made n (.slice a zs.length cap) w 25)
  by_cases hv : vldB n zs = true
  · obtain ⟨m, ns, rfl, rfl, hc⟩ := vldB_cls hv
    have hm := hc.pts
    have HV := Lib.hid hv
    have HT := Lib.hid (show worL m (toI ns) = wE ns (mst ns).toNat by rw [worL, if_pos hv, toNat_toI])
    have HC := Lib.hid hc
    have hl := hc.length
    rw [toI_length] at H B0 HR1 ⊢
    have HTop := Lib.hid (mst_top ns)
    have HDm := Lib.hid (fun k hk => wL_mst (l := ns) hl k hk)
    obtain ⟨D, hD⟩ : ∃ D, D = mst ns := ⟨_, rfl⟩
    have hDt := HTop.out
    have HDe := Lib.hid hD
    rw [← hD] at hDt HT HDm
    clear hv hc hD HTop
    go_enter Tryd.func41, Tryd.ntmps41
    go_wp2_with fail
    refine (specValid m _ (toI ns) _ (H.out.below (k := w.heap.size) (by go_grown) (Nat.le_refl _))).mono ?_
    rintro e w1 ⟨rfl, hb⟩
    rw [HV.out]
    have hs1 : w.heap.size < w1.heap.size := by have := hb.size; simp at this; omega
    have B1 := Lib.hid (B0.out.next (by simp) hb)
    clear hb
    have R1 := Lib.hid (H.out.below B1.out.below (Nat.le_refl _))
    have HA := Lib.hid (show Below w1.heap.size w1 (w1.alloc (.cells #[] 59)) from (Below.refl _ _).alloc (Nat.le_refl _) _)
    have c1 := (B1.out.next hs1 HA.out).at1
    have c1' := B1.out.at1
    go_wp2_with fail
    clear c1 c1'
    go_loopw [3, 4] (fun o now wr => ∃ (k : Nat) (a' : Option Addr) (c' : Nat) (a2 : Option Addr) (c2 : Nat), ((k : Int) ≤ D ∨ k = 0) ∧ o = .slice a' k c' ∧ now = .slice a2 (wL ns k).length c2 ∧ ExS w1.heap.size wr (.slice a' k c') (wE ns k) ∧ Rd wr (.slice a2 (wL ns k).length c2) (toI (wL ns k)) ∧ Hid (∀ b o g, 0 < (wL ns k).length → a2 = some ⟨b, o, none⟩ → (Value.slice a' k c').ownBlock = some g → b ≠ g) ∧ Below w1.heap.size w1 wr) (fun r _ _ => match r with | .slice _ k _ => 40 - k | _ => 0)
    case atStart => exact ⟨0, _, _, _, _, .inr rfl, rfl, rfl, ExS.lit' (by simp) (by simp), R1.out.below HA.out (Nat.le_refl _), Lib.hid (fun b' o g h0 he hg => by
      obtain ⟨h1, h2⟩ := HR1.out h0
      rw [h1] at he
      cases he
      cases hg
      show b ≠ w1.heap.size
      omega), HA.out⟩
    case round =>
      obtain ⟨k, a', c', a2, c2, hk, rfl, rfl, hin, hrd, HApt, hbe⟩ := hrel
      have LRun := Lib.hid (fun g hg => (hin.lt g hg).2)
      have HIN := Lib.hid hin
      have RN := Lib.hid hrd
      have BE := Lib.hid hbe
      have hz := hbe.size
      have BR := Lib.hid (B1.out.next hs1 hbe)
      have hsr : w.heap.size < wr.heap.size := by omega
      have c0 := BR.out.at0
      clear hin hrd hbe
      obtain ⟨hsub, hln⟩ := wL_sub ns k
      have HLT := Lib.hid (fun v w h => specLittlestone m hm (wL ns k) v w (by omega) (fun t ht => HC.out.lt t (hsub t ht)) h)
      by_cases hlt : (k : Int) < D
      · have hmk := HDm.out k (by omega)
        have HW := Lib.hid (w_step (l := wL ns k) (by omega) (by omega))
        have HMk := Lib.hid hmk
        have HPos := Lib.hid (show 0 < mst (wL ns k) by omega)
        have HSub := Lib.hid (fun t ht => HC.out.lt t (hsub t ht))
        have HSub32 := Lib.hid (fun t ht => HC.out.lt32 t (hsub t ht))
        have HL' := Lib.hid (show wL ns (k + 1) = kp (wL ns k) (wEx (wL ns k)) from rfl)
        have HE' := Lib.hid (show wE ns (k + 1) = wE ns k ++ [wEx (wL ns k)] from rfl)
        have HAl := Lib.hid (wE_len ns k)
        rw [hmk] at HLT
        clear hsub hmk
        generalize wL ns k = L at *
        generalize wE ns k = E at *
        go_wp2_with fail
        refine (HLT.out _ _ RN.out).mono ?_
        rintro e w4 ⟨rfl, hb4⟩
        have B4 := Lib.hid (BR.out.next hsr hb4)
        have HB4 := Lib.hid hb4
        have hz4 := hb4.size
        have R4 := Lib.hid (RN.out.below hb4 (Nat.le_refl _))
        clear hb4 c0
        have c0 := B4.out.at0
        go_wp2_with fail
        refine (HLT.out _ _ R4.out).mono ?_
        rintro e w5 ⟨rfl, hb5⟩
        have B5 := Lib.hid (B4.out.next (by omega) hb5)
        have HB5 := Lib.hid (HB4.out.trans (hb5.mono hz4))
        have hz5 := HB5.out.size
        clear hb5 c0
        go_wp2_with fail
        go_loopw [3, 4, 6] (fun o now i wq => ∃ j : Nat, j ≤ m ∧ i = .int .i64 j ∧ o = .slice a' k c' ∧ now = .slice a2 L.length c2 ∧ Hid (∀ y, y < j → wP L y = false) ∧ Below w5.heap.size w5 wq) (fun _ _ i _ => m - (intOf i).toNat)
        case atStart => exact ⟨0, Nat.zero_le _, rfl, rfl, rfl, Lib.hid fun y hy => by omega, Below.refl _ _⟩
        case round =>
          obtain ⟨j, hj, rfl, rfl, rfl, HB, hbq⟩ := hrel
          have HBq := Lib.hid (HB5.out.trans (hbq.mono hz5))
          have hzq := HBq.out.size
          have BQ := Lib.hid (BR.out.next hsr HBq.out)
          have c0 := BQ.out.at0
          have RQ := Lib.hid (RN.out.below HBq.out (Nat.le_refl _))
          have BQ5 := Lib.hid hbq
          have hz5q := hbq.size
          clear hbq
          by_cases hjl : j < m
          · have hj5 : j < 5 := by omega
            have hw1 := List.length_filter_le (fun s => hasX j s) L
            have hw2 := List.length_filter_le (fun s => !hasX j s) L
            have HY := Lib.hid (fun w h => specYes (.slice a2 L.length c2) L j hj5 HSub32.out (by omega) w h)
            have HN := Lib.hid (fun w h => specNo (.slice a2 L.length c2) L j hj5 HSub32.out (by omega) w h)
            have HL1 := Lib.hid (fun v w h => specLittlestone m hm (wth j L) v w (by unfold wth; omega) (wth_pts HSub.out) h)
            have HL2 := Lib.hid (fun v w h => specLittlestone m hm (wto j L) v w (by unfold wto; omega) (wto_pts HSub.out) h)
            have HPj := Lib.hid (show wP L j = decide (D - (k : Int) - 1 ≤ min (mst (wth j L)) (mst (wto j L))) by rw [wP, HMk.out])
            have HGj := Lib.hid (show gOpt L j = decide (mst (wto j L) < mst (wth j L)) from rfl)
            have HT1 := Lib.hid (mst_top (wth j L))
            have HT2 := Lib.hid (mst_top (wto j L))
            have HStep := Lib.hid (fun (hp : wP L j = true) => show wEx L = ((j : Int), !gOpt L j) from by
              rw [wEx, show wX L = j by rw [wX, fst5_at hj5 hp HB.out]; rfl])
            have HBn := Lib.hid (fun (hp : wP L j = false) => show ∀ y, y < j + 1 → wP L y = false from fun y hy => by
              by_cases e : y = j
              · subst e; exact hp
              · exact HB.out y (by omega))
            have HKf := Lib.hid (fun bb => show kp L ((j : Int), bb) = L.filter (fun s => hasX j s == bb) by unfold kp; rw [Int.toNat_natCast])
            have HK := Lib.hid (fun bb v w h => specKeep v L j bb hj5 HSub32.out (by omega) w h)
            clear hw1 hw2
            obtain ⟨A, hA⟩ : ∃ A, A = mst (wth j L) := ⟨_, rfl⟩
            obtain ⟨C, hC⟩ : ∃ C, C = mst (wto j L) := ⟨_, rfl⟩
            rw [← hA] at HL1 HPj HGj HT1
            rw [← hC] at HL2 HPj HGj HT2
            clear hA hC
            have hA := HT1.out
            have hC := HT2.out
            go_wp2_with fail
            go_region_held3 (fun w' => w'.cell? ⟨w.heap.size, 0, none⟩ = some (.int .i64 (m : Int))) (first | exact c0 | exact f0 | exact f1 | go_keep) (first
            | (go_at_call 71; refine (HY.out _ (by first | exact RQ.out | exact RQ.out.below (k := wr.heap.size) (by go_grown) (Nat.le_refl _))).mono ?_; rintro e wy1 ⟨ay1, cy1, rfl, hiny1, hby1⟩; have hby1' : Below wr.heap.size wr wy1 := Below.trans (by first | exact Below.refl _ _ | exact (Below.refl _ _).drew) hby1; have BY1 := Lib.hid hby1'; have RY1 := Lib.hid hiny1.rd; have f0 := (hby1'.cell (p := ⟨w.heap.size, 0, none⟩) (by show w.heap.size < wr.heap.size; omega)).trans c0; have hzy1 := hby1'.size; clear hiny1 hby1 hby1')
            | (go_at_call 90; refine (HL1.out _ _ RY1.out).mono ?_; rintro e wa ⟨rfl, hbl1⟩; have hbl1' : Below wr.heap.size wr wa := BY1.out.trans (hbl1.mono hzy1); have BL1 := Lib.hid hbl1'; have f1 := (hbl1'.cell (p := ⟨w.heap.size, 0, none⟩) (by show w.heap.size < wr.heap.size; omega)).trans c0; clear hbl1 hbl1'))
            have hza := BL1.out.size
            have RA := Lib.hid (RQ.out.below BL1.out (Nat.le_refl _))
            have BA := Lib.hid (BQ.out.next (by omega) BL1.out)
            clear c0 f0 f1
            have c0 := BA.out.at0
            go_wp2_with fail
            go_region_held3 (fun w' => w'.cell? ⟨w.heap.size, 0, none⟩ = some (.int .i64 (m : Int))) (first | exact c0 | exact f0 | exact f1 | go_keep) (first
            | (go_at_call 91; refine (HN.out _ (by first | exact RA.out | exact RA.out.below (k := wa.heap.size) (by go_grown) (Nat.le_refl _))).mono ?_; rintro e wy2 ⟨ay2, cy2, rfl, hiny2, hby2⟩; have hby2' : Below wa.heap.size wa wy2 := Below.trans (by first | exact Below.refl _ _ | exact (Below.refl _ _).drew) hby2; have BY2 := Lib.hid hby2'; have RY2 := Lib.hid hiny2.rd; have f0 := (hby2'.cell (p := ⟨w.heap.size, 0, none⟩) (by show w.heap.size < wa.heap.size; omega)).trans c0; have hzy2 := hby2'.size; clear hiny2 hby2 hby2')
            | (go_at_call 90; refine (HL2.out _ _ RY2.out).mono ?_; rintro e wb ⟨rfl, hbl2⟩; have hbl2' : Below wa.heap.size wa wb := BY2.out.trans (hbl2.mono hzy2); have BL2 := Lib.hid hbl2'; have f1 := (hbl2'.cell (p := ⟨w.heap.size, 0, none⟩) (by show w.heap.size < wa.heap.size; omega)).trans c0; clear hbl2 hbl2'))
            have hzb := BL2.out.size
            have HBb := Lib.hid (HBq.out.trans ((BL1.out.trans (BL2.out.mono hza)).mono hzq))
            have HBb5 := Lib.hid (BQ5.out.trans ((BL1.out.trans (BL2.out.mono hza)).mono hz5q))
            clear c0 f0 f1
            rcases Int.lt_trichotomy A C with hAC | hAC | hAC
            · have hdc : decide (C < A) = false := decide_eq_false (by omega)
              by_cases hp : D - (k : Int) - 1 ≤ min A C
              · have hwp : wP L j = true := by rw [HPj.out]; exact decide_eq_true hp
                have HSt := Lib.hid (HStep.out hwp)
                have HGG := Lib.hid (HGj.out.trans hdc)
                have INb := Lib.hid (HIN.out.below HBb.out (Nat.le_refl _))
                have RB := Lib.hid (RN.out.below HBb.out (Nat.le_refl _))
                have HKK := Lib.hid (fun v w h => HK.out true v w h)
                rw [← HKf.out] at HKK
                have HL2' := Lib.hid (show wL ns (k + 1) = kp L ((j : Int), true) by rw [HL'.out, HSt.out, HGG.out]; rfl)
                have HE2' := Lib.hid (show wE ns (k + 1) = E ++ [((j : Int), true)] by rw [HE'.out, HSt.out, HGG.out]; rfl)
                have hpm : D - (k : Int) - 1 ≤ A ∧ D - (k : Int) - 1 ≤ C := by omega
                clear hp hwp
                have HZb := Lib.hid (show (wb.alloc (Obj.cells #[.int .i64 (j : Int), .bool true] 59)).heap.size = wb.heap.size + 1 by simp)
                have HWe := Lib.hid (show Below wb.heap.size wb (wb.alloc (Obj.cells #[.int .i64 (j : Int), .bool true] 59)) from (Below.refl _ _).alloc (Nat.le_refl _) _)
                have HE0 := Lib.hid (show (wb.alloc (Obj.cells #[.int .i64 (j : Int), .bool true] 59)).cell? ⟨wb.heap.size, 0, none⟩ = some (.int .i64 (j : Int)) by simp [go_sem])
                have HE1 := Lib.hid (show (wb.alloc (Obj.cells #[.int .i64 (j : Int), .bool true] 59)).cell? ⟨wb.heap.size, 1, none⟩ = some (.bool true) by simp [go_sem])
                have hzo := HBb.out.size
                have HBo := Lib.hid (BE.out.trans (HBb.out.mono hz))
                go_upto_region 14 with (fail)
                generalize (wb.alloc (Obj.cells #[.int .i64 (j : Int), .bool true] 59)) = we at *
                have e0 := HE0.out
                have e1 := HE1.out
                have hze := HZb.out
                have INe := Lib.hid (INb.out.below HWe.out (Nat.le_refl _))
                have RE := Lib.hid (RB.out.below HWe.out (Nat.le_refl _))
                clear HGG
                go_wp2_with (at_builtin; refine wpList_appE rfl (.tmp 55) (.tmp 57) rfl w1.heap.size _ E rfl (by exact INe.out.alloc _) _ (j : Int) true rfl ⟨by rw [← hze, World.cell?_alloc_at _ _ _ _ rfl]; rfl, by rw [← hze, World.cell?_alloc_at _ _ _ _ rfl]; rfl⟩ (by rw [HAl.out]; omega) (by simp; omega) ?_; intro a1 c1 w6 hin6 hb6 hg6; have I6 := Lib.hid hin6; have HB6 := Lib.hid (show Below w1.heap.size we w6 from Below.trans ((Below.refl _ _).alloc (by omega) _) hb6); have HG6 := Lib.hid (show we.grownBy w6 (Value.slice a' k c').ownBlock from grownBy_trans (World.grownBy_alloc _ _ _) hg6); clear hin6 hb6 hg6 e0 e1; have e0 : w6.cell? ⟨wb.heap.size, 0, none⟩ = some (.int .i64 (j : Int)) := HG6.out.cell HE0.out (show some wb.heap.size ≠ _ from fun e => by have := LRun.out _ e.symm; omega); have e1 : w6.cell? ⟨wb.heap.size, 1, none⟩ = some (.bool true) := HG6.out.cell HE1.out (show some wb.heap.size ≠ _ from fun e => by have := LRun.out _ e.symm; omega))
                have R6 := Lib.hid (RE.out.kept HG6.out (fun b' o h0 he e => HApt.out b' o b' (by rw [toI_length] at h0; exact h0) he e.symm rfl))
                have L6 := Lib.hid (fun g hg => (I6.out.lt g hg).2)
                have hz6 := HG6.out.size
                refine (HKK.out _ _ R6.out).mono ?_
                rintro e w7 ⟨a7, c7, rfl, hin7, hb7⟩
                have hz7 := hb7.size
                have I7 := Lib.hid (I6.out.below hb7 (Nat.le_refl _))
                have L7 := Lib.hid (fun g hg => (hin7.lt g hg).1)
                have R7 := Lib.hid hin7.rd
                have B7 := Lib.hid (((HBo.out.trans (HWe.out.mono (by omega))).trans HB6.out).trans (hb7.mono (by omega)))
                rw [toI_length] at R7 L7 ⊢
                clear hin7 hb7 e0 e1
                go_wp2_with fail
                go_roundw
                case rel =>
                  refine ⟨k + 1, a1, c1, a7, c7, .inl (by omega), by rw [HAl.out], by rw [HL2'.out], ?_, ?_, ?_, B7.out⟩
                  · have h8 := I7.out
                    rw [HAl.out] at h8
                    rw [HE2'.out]
                    exact h8
                  · rw [HL2'.out]
                    exact R7.out
                  · refine Lib.hid (fun b' o g _ he hg => ?_)
                    have h1 := L6.out g (by rw [HAl.out]; exact hg)
                    have h2 := L7.out b' (by rw [he]; rfl)
                    omega
                case measure => have := HAl.out; simp; omega
              · have hwp : wP L j = false := by rw [HPj.out]; exact decide_eq_false hp
                have HBn' := Lib.hid (HBn.out hwp)
                clear hwp
                go_wp2_with fail
                go_roundw
                case rel => exact ⟨j + 1, by omega, by go_num, rfl, rfl, HBn', HBb5.out⟩
                case measure => simp [intOf]; omega
            · have hdc : decide (C < A) = false := decide_eq_false (by omega)
              by_cases hp : D - (k : Int) - 1 ≤ min A C
              · have hwp : wP L j = true := by rw [HPj.out]; exact decide_eq_true hp
                have HSt := Lib.hid (HStep.out hwp)
                have HGG := Lib.hid (HGj.out.trans hdc)
                have INb := Lib.hid (HIN.out.below HBb.out (Nat.le_refl _))
                have RB := Lib.hid (RN.out.below HBb.out (Nat.le_refl _))
                have HKK := Lib.hid (fun v w h => HK.out true v w h)
                rw [← HKf.out] at HKK
                have HL2' := Lib.hid (show wL ns (k + 1) = kp L ((j : Int), true) by rw [HL'.out, HSt.out, HGG.out]; rfl)
                have HE2' := Lib.hid (show wE ns (k + 1) = E ++ [((j : Int), true)] by rw [HE'.out, HSt.out, HGG.out]; rfl)
                have hpm : D - (k : Int) - 1 ≤ A ∧ D - (k : Int) - 1 ≤ C := by omega
                clear hp hwp
                have HZb := Lib.hid (show (wb.alloc (Obj.cells #[.int .i64 (j : Int), .bool true] 59)).heap.size = wb.heap.size + 1 by simp)
                have HWe := Lib.hid (show Below wb.heap.size wb (wb.alloc (Obj.cells #[.int .i64 (j : Int), .bool true] 59)) from (Below.refl _ _).alloc (Nat.le_refl _) _)
                have HE0 := Lib.hid (show (wb.alloc (Obj.cells #[.int .i64 (j : Int), .bool true] 59)).cell? ⟨wb.heap.size, 0, none⟩ = some (.int .i64 (j : Int)) by simp [go_sem])
                have HE1 := Lib.hid (show (wb.alloc (Obj.cells #[.int .i64 (j : Int), .bool true] 59)).cell? ⟨wb.heap.size, 1, none⟩ = some (.bool true) by simp [go_sem])
                have hzo := HBb.out.size
                have HBo := Lib.hid (BE.out.trans (HBb.out.mono hz))
                go_upto_region 14 with (fail)
                generalize (wb.alloc (Obj.cells #[.int .i64 (j : Int), .bool true] 59)) = we at *
                have e0 := HE0.out
                have e1 := HE1.out
                have hze := HZb.out
                have INe := Lib.hid (INb.out.below HWe.out (Nat.le_refl _))
                have RE := Lib.hid (RB.out.below HWe.out (Nat.le_refl _))
                clear HGG
                go_wp2_with (at_builtin; refine wpList_appE rfl (.tmp 55) (.tmp 57) rfl w1.heap.size _ E rfl (by exact INe.out.alloc _) _ (j : Int) true rfl ⟨by rw [← hze, World.cell?_alloc_at _ _ _ _ rfl]; rfl, by rw [← hze, World.cell?_alloc_at _ _ _ _ rfl]; rfl⟩ (by rw [HAl.out]; omega) (by simp; omega) ?_; intro a1 c1 w6 hin6 hb6 hg6; have I6 := Lib.hid hin6; have HB6 := Lib.hid (show Below w1.heap.size we w6 from Below.trans ((Below.refl _ _).alloc (by omega) _) hb6); have HG6 := Lib.hid (show we.grownBy w6 (Value.slice a' k c').ownBlock from grownBy_trans (World.grownBy_alloc _ _ _) hg6); clear hin6 hb6 hg6 e0 e1; have e0 : w6.cell? ⟨wb.heap.size, 0, none⟩ = some (.int .i64 (j : Int)) := HG6.out.cell HE0.out (show some wb.heap.size ≠ _ from fun e => by have := LRun.out _ e.symm; omega); have e1 : w6.cell? ⟨wb.heap.size, 1, none⟩ = some (.bool true) := HG6.out.cell HE1.out (show some wb.heap.size ≠ _ from fun e => by have := LRun.out _ e.symm; omega))
                have R6 := Lib.hid (RE.out.kept HG6.out (fun b' o h0 he e => HApt.out b' o b' (by rw [toI_length] at h0; exact h0) he e.symm rfl))
                have L6 := Lib.hid (fun g hg => (I6.out.lt g hg).2)
                have hz6 := HG6.out.size
                refine (HKK.out _ _ R6.out).mono ?_
                rintro e w7 ⟨a7, c7, rfl, hin7, hb7⟩
                have hz7 := hb7.size
                have I7 := Lib.hid (I6.out.below hb7 (Nat.le_refl _))
                have L7 := Lib.hid (fun g hg => (hin7.lt g hg).1)
                have R7 := Lib.hid hin7.rd
                have B7 := Lib.hid (((HBo.out.trans (HWe.out.mono (by omega))).trans HB6.out).trans (hb7.mono (by omega)))
                rw [toI_length] at R7 L7 ⊢
                clear hin7 hb7 e0 e1
                go_wp2_with fail
                go_roundw
                case rel =>
                  refine ⟨k + 1, a1, c1, a7, c7, .inl (by omega), by rw [HAl.out], by rw [HL2'.out], ?_, ?_, ?_, B7.out⟩
                  · have h8 := I7.out
                    rw [HAl.out] at h8
                    rw [HE2'.out]
                    exact h8
                  · rw [HL2'.out]
                    exact R7.out
                  · refine Lib.hid (fun b' o g _ he hg => ?_)
                    have h1 := L6.out g (by rw [HAl.out]; exact hg)
                    have h2 := L7.out b' (by rw [he]; rfl)
                    omega
                case measure => have := HAl.out; simp; omega
              · have hwp : wP L j = false := by rw [HPj.out]; exact decide_eq_false hp
                have HBn' := Lib.hid (HBn.out hwp)
                clear hwp
                go_wp2_with fail
                go_roundw
                case rel => exact ⟨j + 1, by omega, by go_num, rfl, rfl, HBn', HBb5.out⟩
                case measure => simp [intOf]; omega
            · have hdc : decide (C < A) = true := decide_eq_true (by omega)
              by_cases hp : D - (k : Int) - 1 ≤ min A C
              · have hwp : wP L j = true := by rw [HPj.out]; exact decide_eq_true hp
                have HSt := Lib.hid (HStep.out hwp)
                have HGG := Lib.hid (HGj.out.trans hdc)
                have INb := Lib.hid (HIN.out.below HBb.out (Nat.le_refl _))
                have RB := Lib.hid (RN.out.below HBb.out (Nat.le_refl _))
                have HKK := Lib.hid (fun v w h => HK.out false v w h)
                rw [← HKf.out] at HKK
                have HL2' := Lib.hid (show wL ns (k + 1) = kp L ((j : Int), false) by rw [HL'.out, HSt.out, HGG.out]; rfl)
                have HE2' := Lib.hid (show wE ns (k + 1) = E ++ [((j : Int), false)] by rw [HE'.out, HSt.out, HGG.out]; rfl)
                have hpm : D - (k : Int) - 1 ≤ A ∧ D - (k : Int) - 1 ≤ C := by omega
                clear hp hwp
                have HZb := Lib.hid (show (wb.alloc (Obj.cells #[.int .i64 (j : Int), .bool false] 59)).heap.size = wb.heap.size + 1 by simp)
                have HWe := Lib.hid (show Below wb.heap.size wb (wb.alloc (Obj.cells #[.int .i64 (j : Int), .bool false] 59)) from (Below.refl _ _).alloc (Nat.le_refl _) _)
                have HE0 := Lib.hid (show (wb.alloc (Obj.cells #[.int .i64 (j : Int), .bool false] 59)).cell? ⟨wb.heap.size, 0, none⟩ = some (.int .i64 (j : Int)) by simp [go_sem])
                have HE1 := Lib.hid (show (wb.alloc (Obj.cells #[.int .i64 (j : Int), .bool false] 59)).cell? ⟨wb.heap.size, 1, none⟩ = some (.bool false) by simp [go_sem])
                have hzo := HBb.out.size
                have HBo := Lib.hid (BE.out.trans (HBb.out.mono hz))
                go_upto_region 14 with (fail)
                generalize (wb.alloc (Obj.cells #[.int .i64 (j : Int), .bool false] 59)) = we at *
                have e0 := HE0.out
                have e1 := HE1.out
                have hze := HZb.out
                have INe := Lib.hid (INb.out.below HWe.out (Nat.le_refl _))
                have RE := Lib.hid (RB.out.below HWe.out (Nat.le_refl _))
                clear HGG
                go_wp2_with (at_builtin; refine wpList_appE rfl (.tmp 55) (.tmp 57) rfl w1.heap.size _ E rfl (by exact INe.out.alloc _) _ (j : Int) false rfl ⟨by rw [← hze, World.cell?_alloc_at _ _ _ _ rfl]; rfl, by rw [← hze, World.cell?_alloc_at _ _ _ _ rfl]; rfl⟩ (by rw [HAl.out]; omega) (by simp; omega) ?_; intro a1 c1 w6 hin6 hb6 hg6; have I6 := Lib.hid hin6; have HB6 := Lib.hid (show Below w1.heap.size we w6 from Below.trans ((Below.refl _ _).alloc (by omega) _) hb6); have HG6 := Lib.hid (show we.grownBy w6 (Value.slice a' k c').ownBlock from grownBy_trans (World.grownBy_alloc _ _ _) hg6); clear hin6 hb6 hg6 e0 e1; have e0 : w6.cell? ⟨wb.heap.size, 0, none⟩ = some (.int .i64 (j : Int)) := HG6.out.cell HE0.out (show some wb.heap.size ≠ _ from fun e => by have := LRun.out _ e.symm; omega); have e1 : w6.cell? ⟨wb.heap.size, 1, none⟩ = some (.bool false) := HG6.out.cell HE1.out (show some wb.heap.size ≠ _ from fun e => by have := LRun.out _ e.symm; omega))
                have R6 := Lib.hid (RE.out.kept HG6.out (fun b' o h0 he e => HApt.out b' o b' (by rw [toI_length] at h0; exact h0) he e.symm rfl))
                have L6 := Lib.hid (fun g hg => (I6.out.lt g hg).2)
                have hz6 := HG6.out.size
                refine (HKK.out _ _ R6.out).mono ?_
                rintro e w7 ⟨a7, c7, rfl, hin7, hb7⟩
                have hz7 := hb7.size
                have I7 := Lib.hid (I6.out.below hb7 (Nat.le_refl _))
                have L7 := Lib.hid (fun g hg => (hin7.lt g hg).1)
                have R7 := Lib.hid hin7.rd
                have B7 := Lib.hid (((HBo.out.trans (HWe.out.mono (by omega))).trans HB6.out).trans (hb7.mono (by omega)))
                rw [toI_length] at R7 L7 ⊢
                clear hin7 hb7 e0 e1
                go_wp2_with fail
                go_roundw
                case rel =>
                  refine ⟨k + 1, a1, c1, a7, c7, .inl (by omega), by rw [HAl.out], by rw [HL2'.out], ?_, ?_, ?_, B7.out⟩
                  · have h8 := I7.out
                    rw [HAl.out] at h8
                    rw [HE2'.out]
                    exact h8
                  · rw [HL2'.out]
                    exact R7.out
                  · refine Lib.hid (fun b' o g _ he hg => ?_)
                    have h1 := L6.out g (by rw [HAl.out]; exact hg)
                    have h2 := L7.out b' (by rw [he]; rfl)
                    omega
                case measure => have := HAl.out; simp; omega
              · have hwp : wP L j = false := by rw [HPj.out]; exact decide_eq_false hp
                have HBn' := Lib.hid (HBn.out hwp)
                clear hwp
                go_wp2_with fail
                go_roundw
                case rel => exact ⟨j + 1, by omega, by go_num, rfl, rfl, HBn', HBb5.out⟩
                case measure => simp [intOf]; omega
          · exfalso
            obtain ⟨x, hx5, _, _, hxp, _⟩ := HW.out
            have hx : x < m := Nat.lt_of_not_le (fun hmx => (wP_ne HPos.out hxp).1 (wth_nil HSub.out hmx))
            have := HB.out x (by omega)
            rw [hxp] at this
            cases this
      · have HK := Lib.hid (show k = D.toNat by omega)
        have hle : mst (wL ns k) ≤ 0 := by
          rcases hk with h1 | rfl
          · rw [HDm.out k h1]; omega
          · show mst ns ≤ 0
            rw [← HDe.out]; omega
        have hge := (mst_top (wL ns k)).1
        generalize mst (wL ns k) = M at *
        go_wp2_with fail
        refine (HLT.out _ _ RN.out).mono ?_
        rintro e w4 ⟨rfl, hb4⟩
        have B4 := Lib.hid (BR.out.next hsr hb4)
        have I4 := Lib.hid (HIN.out.below hb4 (Nat.le_refl _))
        clear hb4 c0
        go_wp2_with fail
        go_ret
        refine ⟨a', c', ?_, ?_, B4.out.below⟩
        · rw [HT.out, wE_len, ← HK.out]
          rfl
        · rw [HT.out, wE_len, ← HK.out]
          exact I4.out.mono (by omega)
  · have HT := Lib.hid (show worL n zs = [] by rw [worL, if_neg hv])
    rw [Bool.not_eq_true] at hv
    have HV := Lib.hid hv
    clear hv
    go_enter Tryd.func41, Tryd.ntmps41
    go_wp2_with fail
    refine (specValid n _ zs _ (H.out.below (k := w.heap.size) (by go_grown) (Nat.le_refl _))).mono ?_
    rintro e w1 ⟨rfl, hb⟩
    rw [HV.out]
    have B1 := Lib.hid (B0.out.next (by simp) hb)
    clear hb
    go_wp2_with fail
    go_ret
    rw [HT.out]
    exact ⟨none, 0, rfl, ExS.nil _ _, B1.out.below⟩

end Go.Proofs.YtiocaopabkbgpaaDoor
