/- The model's shift and ShiftClass. Conditions: Sets is a slice of small sets. -/
import Derived.Test.YtpkilacappjkhaaShift
import Derived.Test.YtpkilacappjkhaaZH
namespace Go.Proofs.Ytpkilacappjkhaa
open Go.RowKit

theorem Rd.drewS {w : World} {v : Value} {xs : List Int} (h : Rd w v xs) (q : Nat) : Rd (w.drewN q) v xs := h
theorem hasInt_low (t x : Nat) (q : Int) (hq : q = (2 : Int) ^ t) (hx : hasX t x = true) (ns : List Nat) (v : Value) (w : World) (h : Rd w v (toI ns)) :
    Calls Try.prog 41 #[v, .int .i64 ((x : Int) - q)] w fun e w' => e = .returned (.bool (decide (low t x ∈ ns))) ∧ w' = w :=
  (specHasInt v (toI ns) ((x : Int) - q) w h).mono fun e w' ⟨he, hw⟩ => by
    refine ⟨?_, hw.symm⟩
    have h1 := low_ge hx
    have e1 : (x : Int) - q = ((low t x : Nat) : Int) := by
      rw [hq, low, if_pos hx, Int.ofNat_sub h1]
      simp
    rw [he, e1, hasB_nat]

set_option maxHeartbeats 3200000 in
set_option maxRecDepth 100000 in
theorem specShift (n : Int) (v : Value) (ns : List Nat) (t : Nat) (ht : t < 5) (hl : ns.length ≤ 32) (h32 : ∀ x ∈ ns, x < 32) (w : World) (h : Rd w v (toI ns)) :
    Calls Try.prog 51 #[.agg #[.int .i64 n, v], .int .i64 (t : Int)] w (RetClass n (toI (tidyL (ns.map (shs t ns)))) w) := by
  have H := Lib.hid h
  obtain ⟨a, b, off, cap, rfl, h1, h3, h5⟩ := h
  have HLT := Lib.hid (show ∀ x ∈ ns.map (shs t ns), x < 32 by
    intro x hx
    obtain ⟨y, hy, rfl⟩ := List.mem_map.1 hx
    exact Nat.lt_of_le_of_lt (shs_le t ns y) (h32 y hy))
  have HC := Lib.hid h32
  rw [toI_length] at h1 h3 h5 H ⊢
  have H5 := Lib.hid h5
  have H1 := Lib.hid h1
  have hp2 := two_pow_le t (by omega)
  obtain ⟨q, hq⟩ : ∃ q, q = (2 : Int) ^ t := ⟨_, rfl⟩
  have HPW := Lib.hid (fun w => hq ▸ power_q t (by omega) w)
  have hq32 : 0 ≤ q ∧ q ≤ 4096 := by rw [hq]; omega
  have HIH := Lib.hid (fun x hx w h => hasInt_low t x q hq hx ns (.slice a ns.length cap) w h)
  have HQ := Lib.hid hq
  have OB := Lib.hid (show Out n (.slice a ns.length cap) w.heap.size ((w.alloc (Obj.cells #[.int .i64 n, .slice a ns.length cap] 25)).alloc (Obj.cells #[.int .i64 0, .slice none 0 0] 25)) from ⟨by simp [go_sem], by simp [go_sem], by simp [go_sem], by simp [go_sem]⟩)
  have OR := Lib.hid (show Out 0 (.slice none 0 0) (w.heap.size + 1) ((w.alloc (Obj.cells #[.int .i64 n, .slice a ns.length cap] 25)).alloc (Obj.cells #[.int .i64 0, .slice none 0 0] 25)) from ⟨by simp [go_sem], by simp [go_sem], by simp [go_sem], by simp [go_sem]⟩)
  have HB1 := Lib.hid (show Below w.heap.size w ((w.alloc (Obj.cells #[.int .i64 n, .slice a ns.length cap] 25)).alloc (Obj.cells #[.int .i64 0, .slice none 0 0] 25)) by go_grown)
  have HZ1 := Lib.hid (show ((w.alloc (Obj.cells #[.int .i64 n, .slice a ns.length cap] 25)).alloc (Obj.cells #[.int .i64 0, .slice none 0 0] 25)).heap.size = w.heap.size + 2 by simp)
  clear h1 h5 h32 hq hp2
  go_enter Try.func51, Try.ntmps51
  go_wp2_with fail
  obtain ⟨GK, hGK⟩ : ∃ GK, GK = mapTo (shs t ns) ns := ⟨_, rfl⟩
  generalize ((w.alloc (Obj.cells #[.int .i64 n, .slice a ns.length cap] 25)).alloc (Obj.cells #[.int .i64 0, .slice none 0 0] 25)) = w1 at *
  have hz1 := HZ1.out
  go_loopw [5, 6] (fun o i wr => ∃ (k : Nat) (a' : Option Addr) (c' : Nat), k ≤ ns.length ∧ i = .int .i64 k ∧ o = .slice a' (GK k).length c' ∧ Ints w1.heap.size wr (.slice a' (GK k).length c') (toI (GK k)) ∧ Below w1.heap.size w1 wr) (fun _ i _ => ns.length - (intOf i).toNat)
  case atStart => subst hGK; exact ⟨0, _, _, Nat.zero_le _, rfl, rfl, Ints.lit' (by first | omega | simp) (by first | omega | simp), by go_grown⟩
  case round =>
    obtain ⟨k, a', c', hk, rfl, rfl, hin, hbe⟩ := hrel
    have HIN := Lib.hid hin
    have HBE := Lib.hid hbe
    have hz := hbe.size
    clear hin hbe
    have OB3 := Lib.hid (OB.out.next HBE.out (by omega))
    have d0 := OB3.out.at0
    have d1 := OB3.out.at1
    by_cases hlt : k < ns.length
    · obtain ⟨rfl, hbl⟩ := H1.out (by omega)
      have hcx := (HBE.out.cell (p := ⟨b, off + k, none⟩) (by show b < w1.heap.size; omega)).trans ((HB1.out.cell (p := ⟨b, off + k, none⟩) hbl).trans (H5.out k (by omega)))
      rw [toI_getD] at hcx
      have hx := HC.out _ (getD_of_lt hlt)
      have HGK := Lib.hid hGK
      clear hGK
      have HYs := Lib.hid (show GK (k + 1) = GK k ++ [shs t ns (ns.getD k 0)] by rw [HGK.out]; exact mapTo_succ (shs t ns) ns k)
      have hA32 : (GK k).length ≤ 32 := by rw [HGK.out, mapTo_length]; omega
      have HXN := Lib.hid (getD_of_lt hlt)
      generalize ns.getD k 0 = x at *
      generalize GK k = A at *
      have HAl := Lib.hid (toI_length A)
      have HRD := Lib.hid (H.out.below (HB1.out.trans (HBE.out.mono (by omega))) (Nat.le_refl _))
      by_cases hh : hasX t x = true
      · have HH := Lib.hid (fun w => hh ▸ specHas x t (by omega) (by omega) w)
        have HIX := Lib.hid (HIH.out x hh)
        by_cases hm : decide (low t x ∈ ns) = true
        · have HS := Lib.hid (show shs t ns x = x by rw [shs, if_pos (by simpa using hm)])
          rw [hm] at HIX
          clear hh hm
          rw [HS.out] at HYs
          go_wp2_with fail
          go_quiet (first | (go_at_call 52; exact Calls.quiet_of_same (HH.out _)) | (go_at_call 29; exact Calls.quiet_of_same (HPW.out _)) | (go_at_call 41; exact Calls.quiet_of_same (HIX.out _ (by first | exact HRD.out | exact HRD.out.drewS _))))
          have HIN2 := Lib.hid (HIN.out.drewN nq)
          have HBE2 := Lib.hid (below_drewN HBE.out nq)
          generalize (wr.drewN nq) = wd at *
          go_wp2_with (at_builtin; refine wpList_app rfl (.tmp 38) (.tmp 40) rfl w1.heap.size _ (toI A) rfl (by exact HIN2.out.alloc _) _ _ _ [(x : Int)] rfl (src_cell (by rw [World.cell?_alloc_at _ _ _ _ rfl]; rfl)) (by rw [HAl.out]; omega) (by have := HBE2.out.size; simp; omega) ?_; intro a1 c1 w4 hin4 hb4 hg4; rw [HAl.out] at hin4; have I4 := Lib.hid hin4; have B4 := Lib.hid (HBE2.out.trans (Below.trans ((Below.refl _ _).alloc (by have := HBE2.out.size; omega) _) hb4)); clear hin4 hb4 hg4; rw [HAl.out])
          go_roundw
          case rel => exact ⟨k + 1, a1, c1, by omega, by go_num, by rw [HYs.out]; simp, by rw [HYs.out, toI_append]; simpa [toI] using I4.out, B4.out⟩
          case measure => simp [intOf]; omega
        · rw [Bool.not_eq_true] at hm
          have HS := Lib.hid (show ((shs t ns x : Nat) : Int) = (x : Int) - q by
            have h1 := low_ge hh
            rw [shs, if_neg (by simpa using hm), low, if_pos hh, HQ.out, Int.ofNat_sub h1]
            simp)
          rw [hm] at HIX
          clear hh hm
          go_wp2_with fail
          go_quiet (first | (go_at_call 52; exact Calls.quiet_of_same (HH.out _)) | (go_at_call 29; exact Calls.quiet_of_same (HPW.out _)) | (go_at_call 41; exact Calls.quiet_of_same (HIX.out _ (by first | exact HRD.out | exact HRD.out.drewS _))))
          have HIN2 := Lib.hid (HIN.out.drewN nq)
          have HBE2 := Lib.hid (below_drewN HBE.out nq)
          generalize (wr.drewN nq) = wd at *
          go_wp2_with fail
          refine (HPW.out _).mono ?_
          rintro e w3 ⟨rfl, rfl⟩
          go_wp2_with (at_builtin; refine wpList_app rfl (.tmp 38) (.tmp 40) rfl w1.heap.size _ (toI A) rfl (by exact HIN2.out.alloc _) _ _ _ [((x : Int) - q)] rfl (src_cell (by rw [World.cell?_alloc_at _ _ _ _ rfl]; rfl)) (by rw [HAl.out]; omega) (by have := HBE2.out.size; simp; omega) ?_; intro a1 c1 w4 hin4 hb4 hg4; rw [HAl.out] at hin4; have I4 := Lib.hid hin4; have B4 := Lib.hid (HBE2.out.trans (Below.trans ((Below.refl _ _).alloc (by have := HBE2.out.size; omega) _) hb4)); clear hin4 hb4 hg4; rw [HAl.out])
          go_roundw
          case rel =>
            have hI := I4.out
            rw [← HS.out] at hI
            exact ⟨k + 1, a1, c1, by omega, by go_num, by rw [HYs.out]; simp, by rw [HYs.out, toI_append]; simpa [toI] using hI, B4.out⟩
          case measure => simp [intOf]; omega
      · rw [Bool.not_eq_true] at hh
        have HH := Lib.hid (fun w => hh ▸ specHas x t (by omega) (by omega) w)
        have HS := Lib.hid (show shs t ns x = x by rw [shs, low_of hh, if_pos HXN.out])
        clear hh
        rw [HS.out] at HYs
        go_wp2_with fail
        go_quiet (first | (go_at_call 52; exact Calls.quiet_of_same (HH.out _)) | (go_at_call 29; exact Calls.quiet_of_same (HPW.out _)))
        have HIN2 := Lib.hid (HIN.out.drewN nq)
        have HBE2 := Lib.hid (below_drewN HBE.out nq)
        generalize (wr.drewN nq) = wd at *
        go_wp2_with (at_builtin; refine wpList_app rfl (.tmp 38) (.tmp 40) rfl w1.heap.size _ (toI A) rfl (by exact HIN2.out.alloc _) _ _ _ [(x : Int)] rfl (src_cell (by rw [World.cell?_alloc_at _ _ _ _ rfl]; rfl)) (by rw [HAl.out]; omega) (by have := HBE2.out.size; simp; omega) ?_; intro a1 c1 w4 hin4 hb4 hg4; rw [HAl.out] at hin4; have I4 := Lib.hid hin4; have B4 := Lib.hid (HBE2.out.trans (Below.trans ((Below.refl _ _).alloc (by have := HBE2.out.size; omega) _) hb4)); clear hin4 hb4 hg4; rw [HAl.out])
        go_roundw
        case rel => exact ⟨k + 1, a1, c1, by omega, by go_num, by rw [HYs.out]; simp, by rw [HYs.out, toI_append]; simpa [toI] using I4.out, B4.out⟩
        case measure => simp [intOf]; omega
    · obtain rfl : k = ns.length := by omega
      have OR3 := Lib.hid (OR.out.next HBE.out (by omega))
      have HA := Lib.hid (show GK ns.length = ns.map (shs t ns) by rw [hGK]; exact mapTo_all (shs t ns) ns)
      rw [HA.out] at HIN ⊢
      have HTD := Lib.hid (fun w h => specTidy (.slice a' (ns.map (shs t ns)).length c') (ns.map (shs t ns)) w HLT.out (by rw [List.length_map]; omega) h)
      have HZ := Lib.hid (show w.heap.size + 1 < wr.heap.size by omega)
      generalize tidyL (ns.map (shs t ns)) = L at *
      generalize ns.map (shs t ns) = M at *
      have HLl := Lib.hid (toI_length L)
      clear OR
      have r0 := OR3.out.at0
      have r1 := OR3.out.at1
      have q0 := OR3.out.free0
      have q1 := OR3.out.free1
      go_wp2_with fail
      go_region_with (go_at_call 50; refine (HTD.out _ (Rd.below HIN.out.rd (k := wr.heap.size) (by first | exact Below.refl _ _ | exact (Below.refl _ _).drew) (Nat.le_refl _))).mono ?_; rintro e w4 ⟨a4, c4, rfl, hin4, hb4⟩; have hb34 : Below wr.heap.size wr w4 := Below.trans (by first | exact Below.refl _ _ | exact (Below.refl _ _).drew) hb4; have I4 := Lib.hid (show Ints wr.heap.size w4 _ _ from hin4); have OB4 := Lib.hid (OB3.out.next hb34 (by have := HZ.out; omega)); have OR4 := Lib.hid (OR3.out.next hb34 HZ.out); have B4 := Lib.hid (show Below w.heap.size w w4 from (HB1.out.trans (HBE.out.mono (by omega))).trans (hb34.mono (by have := HZ.out; omega))); clear hin4 hb4 hb34; rw [HLl.out] at I4 ⊢; have b0 := OB4.out.at0; have s0 := OR4.out.at0; have s1 := OR4.out.at1; have p0 := OR4.out.free0; have p1 := OR4.out.free1)
      all_goals
        go_wp2_with fail
        refine bodyPost_ret (v := .agg #[.int .i64 n, .slice a4 L.length c4]) (by simp [results, Try.results51, go_sem, s0, s1]) rfl ?_
        refine ⟨a4, c4, by rw [HLl.out], ?_, ?_⟩
        · rw [HLl.out]
          refine Ints.mono (B := wr.heap.size) ?_ (by have := HZ.out; omega)
          repeat (refine Ints.setCell_below ?_ (by have := HZ.out; simp; omega) _)
          exact I4.out
        · have hb0 := B4.out
          clear r0 r1 q0 q1 b0 s0 s1 p0 p1
          go_grown



end Go.Proofs.Ytpkilacappjkhaa
