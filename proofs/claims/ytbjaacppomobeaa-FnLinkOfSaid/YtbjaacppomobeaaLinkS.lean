/- The model's LinkOf. Conditions: Sets is a slice of ints. -/
import Derived.Test.YtbjaacppomobeaaLink
import Derived.Test.YtbjaacppomobeaaZH
namespace Go.Proofs.Ytbjaacppomobeaa
open Go.RowKit

theorem Rd.drewN {w : World} {v : Value} {xs : List Int} (h : Rd w v xs) (q : Nat) : Rd (w.drewN q) v xs := h
theorem hasInt_pow (t x : Nat) (q : Int) (hq : q = (2 : Int) ^ t) (ns : List Nat) (v : Value) (w : World) (h : Rd w v (toI ns)) :
    Calls Try.prog 83 #[v, .int .i64 ((x : Int) + q)] w fun e w' => e = .returned (.bool (decide (x + 2 ^ t ∈ ns))) ∧ w' = w :=
  (specHasInt v (toI ns) ((x : Int) + q) w h).mono fun e w' ⟨he, hw⟩ => by
    refine ⟨?_, hw.symm⟩
    have e1 : (x : Int) + q = ((x + 2 ^ t : Nat) : Int) := by rw [hq]; simp
    rw [he, e1, hasB_nat]

set_option maxHeartbeats 3200000 in
set_option maxRecDepth 100000 in
theorem specLinkOf (n : Int) (v : Value) (zs : List Int) (s : Int) (w : World) (h : Rd w v zs) :
    Calls Try.prog 37 #[.agg #[.int .i64 n, v], .int .i64 s] w (RetClass (rmN n zs s) (lnkL n zs s) w) := by
  have H := Lib.hid h
  obtain ⟨a, b, off, cap, rfl, h1, h3, h5⟩ := h
  by_cases hv0 : vldB n zs = true
  · by_cases hv : ptB n zs s = true
    · obtain ⟨m, t, ns, rfl, rfl, rfl, hc, ht, hm, _⟩ := ptB_nat hv
      have HN := Lib.hid (show rmN m (toI ns) t = (m : Int) - 1 by rw [rmN, if_pos hv])
      have HT := Lib.hid (show lnkL m (toI ns) t = toI (tidyL ((ns.filter (lnkP t ns)).map (rmv t))) by rw [lnkL, if_pos hv, toNat_toI, Int.toNat_natCast])
      have HLT := Lib.hid (show ∀ x ∈ ((ns.filter (lnkP t ns)).map (rmv t)), x < 32 by
        intro x hx
        obtain ⟨y, hy, rfl⟩ := List.mem_map.1 hx
        exact (rmv_and (x := t) (by omega) (hc.lt32 y (List.mem_filter.1 hy).1)).2.2)
      have HWm := Lib.hid (show IntKind.i64.wrap ((m : Int) - 1) = (m : Int) - 1 by rw [IntKind.wrap_i64]; omega)
      have HC := Lib.hid hc
      have hl := hc.length
      have HV := Lib.hid hv0
      have HS := Lib.hid (show (decide ((0 : Int) ≤ (t : Int)) && decide ((t : Int) ≤ (m : Int) - 1)) = true by simp; omega)
      rw [toI_length] at h1 h3 h5 H ⊢
      have H5 := Lib.hid h5
      have H1 := Lib.hid h1
      have OB := Lib.hid (show Out m (.slice a ns.length cap) w.heap.size ((w.alloc (Obj.cells #[.int .i64 (m : Int), .slice a ns.length cap] 28)).alloc (Obj.cells #[.int .i64 0, .slice none 0 0] 28)) from ⟨by simp [go_sem], by simp [go_sem], by simp [go_sem], by simp [go_sem]⟩)
      have OR := Lib.hid (show Out 0 (.slice none 0 0) (w.heap.size + 1) ((w.alloc (Obj.cells #[.int .i64 (m : Int), .slice a ns.length cap] 28)).alloc (Obj.cells #[.int .i64 0, .slice none 0 0] 28)) from ⟨by simp [go_sem], by simp [go_sem], by simp [go_sem], by simp [go_sem]⟩)
      clear hv hv0 hc h1 h5
      go_enter Try.func37, Try.ntmps37
      go_wp2_with fail
      refine (specValid m _ (toI ns) _ (H.out.below (k := w.heap.size) (by go_grown) (Nat.le_refl _))).mono ?_
      rintro e w1 ⟨rfl, hb⟩
      rw [HV.out]
      have hs1 : w.heap.size + 1 < w1.heap.size := by have := hb.size; simp at this; omega
      have OB1 := Lib.hid (OB.out.next hb (by simp only [World.size_alloc]; omega))
      have OR1 := Lib.hid (OR.out.next hb (by simp only [World.size_alloc]; omega))
      have HB1 := Lib.hid (show Below w.heap.size w w1 from Below.trans (by go_grown) (hb.mono (by simp; omega)))
      clear hb
      have c0 := OB1.out.at0
      have c1 := OB1.out.at1
      go_wp2_with fail
      refine (specInRange _ _ _ _).mono ?_
      rintro e w2 ⟨rfl, rfl⟩
      rw [HS.out]
      clear c0 c1
      go_wp2_with fail
      obtain ⟨GK, hGK⟩ : ∃ GK, GK = (fmTo (lnkP t ns) (rmv t) ns) := ⟨_, rfl⟩
      go_loopw [5, 6] (fun o i wr => ∃ (k : Nat) (a' : Option Addr) (c' : Nat), k ≤ ns.length ∧ i = .int .i64 k ∧ o = .slice a' (GK k).length c' ∧ Ints w1.heap.size wr (.slice a' (GK k).length c') (toI (GK k)) ∧ Below w1.heap.size w1 wr) (fun _ i _ => ns.length - (intOf i).toNat)
      case atStart => subst hGK; exact ⟨0, _, _, Nat.zero_le _, rfl, rfl, Ints.lit' (by simp) (by simp), by go_grown⟩
      case round =>
        obtain ⟨k, a', c', hk, rfl, rfl, hin, hbe⟩ := hrel
        have HIN := Lib.hid hin
        have HBE := Lib.hid hbe
        have hz := hbe.size
        clear hin hbe
        have OB3 := Lib.hid (OB1.out.next HBE.out (by omega))
        have d0 := OB3.out.at0
        have d1 := OB3.out.at1
        by_cases hlt : k < ns.length
        · obtain ⟨rfl, hbl⟩ := H1.out (by omega)
          have hcx := (HBE.out.cell (p := ⟨b, off + k, none⟩) (by show b < w1.heap.size; omega)).trans ((HB1.out.cell (p := ⟨b, off + k, none⟩) hbl).trans (H5.out k (by omega)))
          rw [toI_getD] at hcx
          have hx := HC.out.lt32 _ (getD_of_lt hlt)
          have HGK := Lib.hid hGK
          clear hGK
          have HYs := Lib.hid (fun h => show GK (k + 1) = GK k ++ [rmv t (ns.getD k 0)] by rw [HGK.out]; exact fmTo_yes (P := lnkP t ns) (f := rmv t) h)
          have HNo := Lib.hid (fun h => show GK (k + 1) = GK k by rw [HGK.out]; exact fmTo_no (P := lnkP t ns) (f := rmv t) h)
          have HP := Lib.hid (show lnkP t ns (ns.getD k 0) = (!(hasX t (ns.getD k 0)) && decide (ns.getD k 0 + 2 ^ t ∈ ns)) from rfl)
          have hA32 : (GK k).length ≤ 32 := by rw [HGK.out]; exact Nat.le_trans (fmTo_le _ _ _ _) (by omega)
          generalize ns.getD k 0 = x at *
          generalize GK k = A at *
          have HAl := Lib.hid (toI_length A)
          have hp32 := pow_le_32 (n := t) (by omega)
          obtain ⟨q, hq⟩ : ∃ q, q = (2 : Int) ^ t := ⟨_, rfl⟩
          have HPW := Lib.hid (fun w => hq ▸ power_q t (by omega) w)
          have hq32 : 0 ≤ q ∧ q ≤ 4096 := by have := two_pow_le t (by omega); rw [hq]; omega
          have HRD := Lib.hid (H.out.below (HB1.out.trans (HBE.out.mono (by omega))) (Nat.le_refl _))
          have HIH := Lib.hid (fun w h => hasInt_pow t x q hq ns (.slice (some ⟨b, off, none⟩) ns.length cap) w h)
          clear hq
          by_cases hh : hasX t x = true
          · have HF := Lib.hid (HNo.out (by rw [HP.out, hh]; rfl))
            have HH := Lib.hid (fun w => hh ▸ specHas x t (by omega) (by omega) w)
            clear hh
            go_wp2_with fail
            go_quiet (first | (go_at_call 82; exact Calls.quiet_of_same (HH.out _)) | (go_at_call 84; exact Calls.quiet_of_same (HPW.out _)))
            go_wp2_with fail
            have HIN2 := Lib.hid (HIN.out.drewN nq)
            have HBE2 := Lib.hid (below_drewN HBE.out nq)
            go_roundw
            case rel => exact ⟨k + 1, a', c', by omega, by go_num, by rw [HF.out], by rw [HF.out]; exact HIN2.out, HBE2.out⟩
            case measure => simp [intOf]; omega
          · rw [Bool.not_eq_true] at hh
            have HH := Lib.hid (fun w => hh ▸ specHas x t (by omega) (by omega) w)
            by_cases hm : decide (x + 2 ^ t ∈ ns) = true
            · have HF := Lib.hid (HYs.out (by rw [HP.out, hh, hm]; rfl))
              rw [hm] at HIH
              clear hh hm
              have hz : rmv t x < 32 := (rmv_and (x := t) (by omega) hx).2.2
              go_wp2_with fail
              go_quiet (first | (go_at_call 82; exact Calls.quiet_of_same (HH.out _)) | (go_at_call 84; exact Calls.quiet_of_same (HPW.out _)) | (go_at_call 83; exact Calls.quiet_of_same (HIH.out _ (by first | exact HRD.out | exact HRD.out.drewN _))))
              go_wp2_with fail
              refine (specDrop x t (by omega) (by omega) _).mono ?_
              rintro e w3 ⟨rfl, dd, rfl⟩
              have HIN2 := Lib.hid ((HIN.out.drewN nq).drewN dd)
              have HBE2 := Lib.hid (below_drewN (below_drewN HBE.out nq) dd)
              generalize ((wr.drewN nq).drewN dd) = wd at *
              generalize rmv t x = z at *
              go_wp2_with (at_builtin; refine wpList_app rfl (.tmp 46) (.tmp 50) rfl w1.heap.size _ (toI A) rfl (by exact HIN2.out.alloc _) _ _ _ [(z : Int)] rfl (src_cell (by rw [World.cell?_alloc_at _ _ _ _ rfl]; rfl)) (by rw [HAl.out]; omega) (by have := HBE2.out.size; simp; omega) ?_; intro a1 c1 w4 hin4 hb4 hg4; rw [HAl.out] at hin4; have I4 := Lib.hid hin4; have B4 := Lib.hid (HBE2.out.trans (Below.trans ((Below.refl _ _).alloc (by have := HBE2.out.size; omega) _) hb4)); clear hin4 hb4 hg4; rw [HAl.out])
              go_roundw
              case rel => exact ⟨k + 1, a1, c1, by omega, by go_num, by rw [HF.out]; simp, by rw [HF.out, toI_append]; simpa [toI] using I4.out, B4.out⟩
              case measure => simp [intOf]; omega
            · rw [Bool.not_eq_true] at hm
              have HF := Lib.hid (HNo.out (by rw [HP.out, hh, hm]; rfl))
              rw [hm] at HIH
              clear hh hm
              go_wp2_with fail
              go_quiet (first | (go_at_call 82; exact Calls.quiet_of_same (HH.out _)) | (go_at_call 84; exact Calls.quiet_of_same (HPW.out _)) | (go_at_call 83; exact Calls.quiet_of_same (HIH.out _ (by first | exact HRD.out | exact HRD.out.drewN _))))
              go_wp2_with fail
              have HIN2 := Lib.hid (HIN.out.drewN nq)
              have HBE2 := Lib.hid (below_drewN HBE.out nq)
              go_roundw
              case rel => exact ⟨k + 1, a', c', by omega, by go_num, by rw [HF.out], by rw [HF.out]; exact HIN2.out, HBE2.out⟩
              case measure => simp [intOf]; omega
        · obtain rfl : k = ns.length := by omega
          have OR3 := Lib.hid (OR1.out.next HBE.out hs1)
          have HA := Lib.hid (show GK ns.length = ((ns.filter (lnkP t ns)).map (rmv t)) by rw [hGK]; exact fmTo_all (lnkP t ns) (rmv t) ns)
          rw [HA.out] at HIN ⊢
          have HTD := Lib.hid (fun w h => specTidy (.slice a' ((ns.filter (lnkP t ns)).map (rmv t)).length c') ((ns.filter (lnkP t ns)).map (rmv t)) w HLT.out (by rw [List.length_map]; have := List.length_filter_le (lnkP t ns) ns; omega) h)
          have HZ := Lib.hid (show w.heap.size + 1 < wr.heap.size by omega)
          generalize tidyL ((ns.filter (lnkP t ns)).map (rmv t)) = L at *
          generalize ((ns.filter (lnkP t ns)).map (rmv t)) = M at *
          have HLl := Lib.hid (toI_length L)
          clear OR1
          have r0 := OR3.out.at0
          have r1 := OR3.out.at1
          have q0 := OR3.out.free0
          have q1 := OR3.out.free1
          go_wp2_with fail
          go_region_with (go_at_call 86; refine (HTD.out _ (Rd.below HIN.out.rd (k := wr.heap.size) (by first | exact Below.refl _ _ | exact (Below.refl _ _).drew) (Nat.le_refl _))).mono ?_; rintro e w4 ⟨a4, c4, rfl, hin4, hb4⟩; have hb34 : Below wr.heap.size wr w4 := Below.trans (by first | exact Below.refl _ _ | exact (Below.refl _ _).drew) hb4; have I4 := Lib.hid (show Ints wr.heap.size w4 _ _ from hin4); have OB4 := Lib.hid (OB3.out.next hb34 (by have := HZ.out; omega)); have OR4 := Lib.hid (OR3.out.next hb34 HZ.out); have B4 := Lib.hid (show Below w.heap.size w w4 from (HB1.out.trans (HBE.out.mono (by omega))).trans (hb34.mono (by have := HZ.out; omega))); clear hin4 hb4 hb34; rw [HLl.out] at I4 ⊢; have b0 := OB4.out.at0; have s0 := OR4.out.at0; have s1 := OR4.out.at1; have p0 := OR4.out.free0; have p1 := OR4.out.free1)
          all_goals
            go_wp2_with fail
            refine bodyPost_ret (v := .agg #[.int .i64 ((m : Int) - 1), .slice a4 L.length c4]) (by simp [results, Try.results37, go_sem, s0, s1, HWm.out]) rfl ?_
            rw [HN.out, HT.out]
            refine ⟨a4, c4, by rw [HLl.out], ?_, ?_⟩
            · rw [HLl.out]
              refine Ints.mono (B := wr.heap.size) ?_ (by have := HZ.out; omega)
              repeat (refine Ints.setCell_below ?_ (by have := HZ.out; simp; omega) _)
              exact I4.out
            · have hb0 := B4.out
              clear r0 r1 q0 q1 b0 s0 s1 p0 p1
              go_grown
    · obtain ⟨m, ns, rfl, rfl, hc⟩ := vldB_cls hv0
      have hm := hc.pts
      have HN := Lib.hid (show rmN m (toI ns) s = 0 by rw [rmN, if_neg hv])
      have HT := Lib.hid (show lnkL m (toI ns) s = [] by rw [lnkL, if_neg hv])
      have HS := Lib.hid (show (decide ((0 : Int) ≤ s) && decide (s ≤ (m : Int) - 1)) = false by
        rw [Bool.not_eq_true] at hv
        simp only [ptB, hv0, Bool.true_and] at hv
        rw [← hv]
        congr 1
        rw [decide_eq_decide]
        omega)
      have HV := Lib.hid hv0
      rw [toI_length] at h1 h3 h5 H ⊢
      have OB := Lib.hid (show Out m (.slice a ns.length cap) w.heap.size ((w.alloc (Obj.cells #[.int .i64 (m : Int), .slice a ns.length cap] 28)).alloc (Obj.cells #[.int .i64 0, .slice none 0 0] 28)) from ⟨by simp [go_sem], by simp [go_sem], by simp [go_sem], by simp [go_sem]⟩)
      have OR := Lib.hid (show Out 0 (.slice none 0 0) (w.heap.size + 1) ((w.alloc (Obj.cells #[.int .i64 (m : Int), .slice a ns.length cap] 28)).alloc (Obj.cells #[.int .i64 0, .slice none 0 0] 28)) from ⟨by simp [go_sem], by simp [go_sem], by simp [go_sem], by simp [go_sem]⟩)
      clear hv hv0 hc h1 h5
      go_enter Try.func37, Try.ntmps37
      go_wp2_with fail
      refine (specValid m _ (toI ns) _ (H.out.below (k := w.heap.size) (by go_grown) (Nat.le_refl _))).mono ?_
      rintro e w1 ⟨rfl, hb⟩
      rw [HV.out]
      have hs1 : w.heap.size + 1 < w1.heap.size := by have := hb.size; simp at this; omega
      have OB1 := Lib.hid (OB.out.next hb (by simp only [World.size_alloc]; omega))
      have OR1 := Lib.hid (OR.out.next hb (by simp only [World.size_alloc]; omega))
      have HB1 := Lib.hid (show Below w.heap.size w w1 from Below.trans (by go_grown) (hb.mono (by simp; omega)))
      clear hb
      have c0 := OB1.out.at0
      have c1 := OB1.out.at1
      go_wp2_with fail
      refine (specInRange _ _ _ _).mono ?_
      rintro e w2 ⟨rfl, rfl⟩
      rw [HS.out]
      clear c0 c1
      have r0 := OR1.out.at0
      have r1 := OR1.out.at1
      have q0 := OR1.out.free0
      have q1 := OR1.out.free1
      go_wp2_with fail
      refine bodyPost_ret (v := .agg #[.int .i64 0, .slice none 0 0]) (by simp [results, Try.results37, go_sem, r0, r1]) rfl ?_
      rw [HN.out, HT.out]
      refine ⟨none, 0, rfl, Ints.nil _ _, ?_⟩
      have hb0 := HB1.out
      clear r0 r1 q0 q1
      go_grown
  · have hv : ¬ ptB n zs s = true := by simp [ptB, hv0]
    have HN := Lib.hid (show rmN n zs s = 0 by rw [rmN, if_neg hv])
    have HT := Lib.hid (show lnkL n zs s = [] by rw [lnkL, if_neg hv])
    rw [Bool.not_eq_true] at hv0
    have HV := Lib.hid hv0
    clear hv hv0
    go_enter Try.func37, Try.ntmps37
    go_wp2_with fail
    refine (specValid n _ zs _ (H.out.below (k := w.heap.size) (by go_grown) (Nat.le_refl _))).mono ?_
    rintro e w1 ⟨rfl, hb⟩
    rw [HV.out]
    obtain ⟨hc, hf⟩ := bcell hb
    have Hb := Lib.hid hb
    clear hb
    go_wp2_with fail
    refine bodyPost_ret (v := .agg #[.int .i64 0, .slice none 0 0]) (by simp [results, Try.results37, go_sem, hc]) rfl ?_
    rw [HN.out, HT.out]
    refine ⟨none, 0, rfl, Ints.nil _ _, ?_⟩
    have hb0 : Below w.heap.size w w1 := Below.trans (by go_grown) (Hb.out.mono (by simp; omega))
    clear hc hf
    go_grown


end Go.Proofs.Ytbjaacppomobeaa
