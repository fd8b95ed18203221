/- DisagreementOf, the program's and the model's. Conditions: Sets is a slice of ints; the table setsWith is laid. -/
import Derived.Test.YthjbkjkfibiceaaDoorFamOf
import Derived.Test.YthjbkjkfibiceaaDoorKeep
import Derived.Test.YthjbkjkfibiceaaDoorZB
namespace Go.Proofs.YthjbkjkfibiceaaDoor
open Go.RowKit

/-- do the sets differ at x? -/
def disP (ns : List Nat) (x : Nat) : Bool := decide (wth x ns ≠ []) && decide (wto x ns ≠ [])
def disL (n : Int) (zs : List Int) : List Int := if vldB n zs = true then toI ((List.range n.toNat).filter (disP (zs.map Int.toNat))) else []
theorem disL_len (n : Int) (zs : List Int) : (disL n zs).length ≤ 1048576 := by
  unfold disL
  split
  · rename_i hv
    obtain ⟨m, ns, rfl, rfl, hc⟩ := vldB_cls hv
    rw [toI_length, Int.toNat_natCast]
    have := filt_le (disP ((toI ns).map Int.toNat)) m
    have := hc.pts
    omega
  · simp
theorem wth_lt {x : Nat} {ns : List Nat} (h32 : ∀ t ∈ ns, t < 32) : ∀ t ∈ wth x ns, t < 32 := fun t ht => h32 t (List.mem_filter.1 ht).1
theorem wto_lt {x : Nat} {ns : List Nat} (h32 : ∀ t ∈ ns, t < 32) : ∀ t ∈ wto x ns, t < 32 := fun t ht => h32 t (List.mem_filter.1 ht).1

set_option maxHeartbeats 1600000 in
set_option maxRecDepth 100000 in
theorem implDisagreementOf (n : Int) (v : Value) (zs : List Int) (w : World) (h : Rd w v zs) (hsw : SW w) :
    Calls Tryd.prog 25 #[.agg #[.int .i64 n, v]] w (RetInts (disL n zs) w) := by
  have H := Lib.hid h
  have HSW := Lib.hid hsw
  clear hsw
  obtain ⟨a, b, off, cap, rfl, h1, h3, h5⟩ := h
  have B0 := Lib.hid (Box.made n (.slice a zs.length cap) w 25)
  by_cases hv : vldB n zs = true
  · obtain ⟨m, ns, rfl, rfl, hc⟩ := vldB_cls hv
    have hm := hc.pts
    have HV := Lib.hid hv
    have HT := Lib.hid (show disL m (toI ns) = toI ((List.range m).filter (disP ns)) by rw [disL, if_pos hv, toNat_toI, Int.toNat_natCast])
    have HC := Lib.hid hc
    have hl := hc.length
    rw [toI_length] at h1 h3 h5 H B0 ⊢
    clear hv hc h1 h5
    go_enter Tryd.func25, Tryd.ntmps25
    go_wp2_with fail
    refine (implValid m _ (toI ns) _ (H.out.below (k := w.heap.size) (by go_grown) (Nat.le_refl _))).mono ?_
    rintro e w1 ⟨rfl, hb⟩
    rw [HV.out]
    have hs1 : w.heap.size < w1.heap.size := by have := hb.size; simp at this; omega
    have B1 := Lib.hid (B0.out.next (by simp) hb)
    clear hb
    have c0 := B1.out.at0
    have c1 := B1.out.at1
    go_wp2_with fail
    clear c0 c1
    go_loopw [3, 12] (fun o i wr => ∃ (k : Nat) (a' : Option Addr) (c' : Nat), k ≤ m ∧ i = .int .i64 k ∧ o = .slice a' ((List.range k).filter (disP ns)).length c' ∧ Ints w1.heap.size wr (.slice a' ((List.range k).filter (disP ns)).length c') (toI ((List.range k).filter (disP ns))) ∧ Below w1.heap.size w1 wr) (fun _ i _ => m - (intOf i).toNat)
    case atStart => exact ⟨0, none, 0, Nat.zero_le _, rfl, rfl, Ints.nil _ _, Below.refl _ _⟩
    case round =>
      obtain ⟨k, a', c', hk, rfl, rfl, hin, hbe⟩ := hrel
      have HIN := Lib.hid hin
      have HBE := Lib.hid hbe
      have hz := hbe.size
      have B2 := Lib.hid (B1.out.next hs1 hbe)
      have HRD := Lib.hid (H.out.below B2.out.below (Nat.le_refl _))
      have SW2 := Lib.hid (HSW.out.next B2.out.below)
      clear hin hbe
      by_cases hlt : k < m
      · have HY := Lib.hid (fun h => filt_yes (p := disP ns) (k := k) h)
        have HN := Lib.hid (fun h => filt_no (p := disP ns) (k := k) h)
        have hA := filt_le (disP ns) k
        have HP := Lib.hid (show disP ns k = (decide (wth k ns ≠ []) && decide (wto k ns ≠ [])) from rfl)
        have HF1 := Lib.hid (fm_ne (wth_lt (x := k) HC.out.lt32))
        have HF2 := Lib.hid (fm_ne (wto_lt (x := k) HC.out.lt32))
        generalize (List.range k).filter (disP ns) = A at *
        have HAl := Lib.hid (toI_length A)
        have c0 := B2.out.at0
        have c1 := B2.out.at1
        go_wp2_with fail
        refine (implFamilyOf m _ ns HC.out.lt32 _ HRD.out).mono ?_
        rintro e w3 ⟨rfl, hb3⟩
        have hz3 := hb3.size
        have SW3 := Lib.hid (SW2.out.next hb3)
        have I3 := Lib.hid (HIN.out.below hb3 (Nat.le_refl _))
        have B3 := Lib.hid (HBE.out.trans (hb3.mono hz))
        clear hb3 c0 c1
        go_wp2_with fail
        refine (implSplit ns k (by omega) _ SW3.out).mono ?_
        rintro e w4 ⟨rfl, d, rfl⟩
        have I4 := Lib.hid (I3.out.drewN d)
        have B4 := Lib.hid (below_drewN B3.out d)
        have hz4 : w1.heap.size ≤ (w3.drewN d).heap.size := B4.out.size
        generalize (w3.drewN d) = w4 at *
        by_cases h1 : wth k ns = []
        · have HK := Lib.hid (HN.out (by rw [HP.out, h1]; rfl))
          rw [h1, fm_nil]
          clear h1
          generalize fm (wto k ns) = F2 at *
          go_wp2_with fail
          go_roundw
          case rel => exact ⟨k + 1, a', c', by omega, by go_num, by rw [HK.out], by rw [HK.out]; exact I4.out, B4.out⟩
          case measure => simp [intOf]; omega
        · have hf1 : fm (wth k ns) ≠ 0 := HF1.out.2 h1
          have hb1 : (fm (wth k ns) != 0) = true := by simpa using hf1
          by_cases h2 : wto k ns = []
          · have HK := Lib.hid (HN.out (by rw [HP.out, h2]; simp))
            rw [h2, fm_nil]
            clear h1 h2
            generalize fm (wth k ns) = F1 at *
            go_wp2_with fail
            go_roundw
            case rel => exact ⟨k + 1, a', c', by omega, by go_num, by rw [HK.out], by rw [HK.out]; exact I4.out, B4.out⟩
            case measure => simp [intOf]; omega
          · have HK := Lib.hid (HY.out (by rw [HP.out]; simp [h1, h2]))
            have hf2 : fm (wto k ns) ≠ 0 := HF2.out.2 h2
            have hb2 : (fm (wto k ns) != 0) = true := by simpa using hf2
            clear h1 h2
            generalize fm (wth k ns) = F1 at *
            generalize fm (wto k ns) = F2 at *
            go_wp2_with (at_builtin; refine wpList_app rfl (.tmp 28) (.tmp 30) rfl w1.heap.size _ (toI A) rfl (by exact I4.out.alloc _) _ _ _ [(k : Int)] rfl (src_cell (by rw [World.cell?_alloc_at _ _ _ _ rfl]; rfl)) (by rw [HAl.out]; omega) (by simp; omega) ?_; intro a1 c1 w5 hin5 hb5 hg5; rw [HAl.out] at hin5; have I5 := Lib.hid hin5; have B5 := Lib.hid (B4.out.trans (Below.trans ((Below.refl _ _).alloc hz4 _) hb5)); clear hin5 hb5 hg5; rw [HAl.out])
            go_roundw
            case rel => exact ⟨k + 1, a1, c1, by omega, by go_num, by rw [HK.out]; simp, by rw [HK.out, toI_append]; simpa [toI] using I5.out, B5.out⟩
            case measure => simp [intOf]; omega
      · obtain rfl : k = m := by omega
        have HAl := Lib.hid (toI_length ((List.range k).filter (disP ns)))
        generalize (List.range k).filter (disP ns) = A at *
        go_wp2_with fail
        go_ret
        rw [HT.out]
        exact ⟨a', c', by rw [HAl.out]; rfl, by rw [HAl.out]; exact HIN.out.mono (by omega), B2.out.below⟩
  · have HT := Lib.hid (show disL n zs = [] by rw [disL, if_neg hv])
    rw [Bool.not_eq_true] at hv
    have HV := Lib.hid hv
    clear hv
    go_enter Tryd.func25, Tryd.ntmps25
    go_wp2_with fail
    refine (implValid n _ zs _ (H.out.below (k := w.heap.size) (by go_grown) (Nat.le_refl _))).mono ?_
    rintro e w1 ⟨rfl, hb⟩
    rw [HV.out]
    have B1 := Lib.hid (B0.out.next (by simp) hb)
    clear hb
    go_wp2_with fail
    go_ret
    rw [HT.out]
    exact ⟨none, 0, rfl, Ints.nil _ _, B1.out.below⟩

set_option maxHeartbeats 1600000 in
set_option maxRecDepth 100000 in
theorem specDisagreementOf (n : Int) (v : Value) (zs : List Int) (w : World) (h : Rd w v zs) :
    Calls Tryd.prog 26 #[.agg #[.int .i64 n, v]] w (RetInts (disL n zs) w) := by
  have H := Lib.hid h
  obtain ⟨a, b, off, cap, rfl, h1, h3, h5⟩ := h
  have B0 := Lib.hid (Box.made n (.slice a zs.length cap) w 25)
  by_cases hv : vldB n zs = true
  · obtain ⟨m, ns, rfl, rfl, hc⟩ := vldB_cls hv
    have hm := hc.pts
    have HV := Lib.hid hv
    have HT := Lib.hid (show disL m (toI ns) = toI ((List.range m).filter (disP ns)) by rw [disL, if_pos hv, toNat_toI, Int.toNat_natCast])
    have HC := Lib.hid hc
    have hl := hc.length
    rw [toI_length] at h1 h3 h5 H B0 ⊢
    clear hv hc h1 h5
    go_enter Tryd.func26, Tryd.ntmps26
    go_wp2_with fail
    refine (specValid m _ (toI ns) _ (H.out.below (k := w.heap.size) (by go_grown) (Nat.le_refl _))).mono ?_
    rintro e w1 ⟨rfl, hb⟩
    rw [HV.out]
    have hs1 : w.heap.size < w1.heap.size := by have := hb.size; simp at this; omega
    have B1 := Lib.hid (B0.out.next (by simp) hb)
    clear hb
    have c0 := B1.out.at0
    have c1 := B1.out.at1
    go_wp2_with fail
    clear c0 c1
    go_loopw [3, 4] (fun o i wr => ∃ (k : Nat) (a' : Option Addr) (c' : Nat), k ≤ m ∧ i = .int .i64 k ∧ o = .slice a' ((List.range k).filter (disP ns)).length c' ∧ Ints w1.heap.size wr (.slice a' ((List.range k).filter (disP ns)).length c') (toI ((List.range k).filter (disP ns))) ∧ Below w1.heap.size w1 wr) (fun _ i _ => m - (intOf i).toNat)
    case atStart => exact ⟨0, _, _, Nat.zero_le _, rfl, rfl, Ints.lit' (by simp) (by simp), by go_grown⟩
    case round =>
      obtain ⟨k, a', c', hk, rfl, rfl, hin, hbe⟩ := hrel
      have HIN := Lib.hid hin
      have HBE := Lib.hid hbe
      have hz := hbe.size
      have B2 := Lib.hid (B1.out.next hs1 hbe)
      have HRD := Lib.hid (H.out.below B2.out.below (Nat.le_refl _))
      clear hin hbe
      have c0 := B2.out.at0
      have c1 := B2.out.at1
      by_cases hlt : k < m
      · have HY := Lib.hid (fun h => filt_yes (p := disP ns) (k := k) h)
        have HN := Lib.hid (fun h => filt_no (p := disP ns) (k := k) h)
        have hA := filt_le (disP ns) k
        have HP := Lib.hid (show disP ns k = (decide (wth k ns ≠ []) && decide (wto k ns ≠ [])) from rfl)
        generalize (List.range k).filter (disP ns) = A at *
        have HAl := Lib.hid (toI_length A)
        go_wp2_with fail
        refine (specYes _ ns k (by omega) HC.out.lt32 hl _ HRD.out).mono ?_
        rintro e w3 ⟨a3, c3, rfl, hin3, hb3⟩
        have hz3 := hb3.size
        have I3 := Lib.hid (HIN.out.below hb3 (Nat.le_refl _))
        have B3 := Lib.hid (HBE.out.trans (hb3.mono hz))
        have B23 := Lib.hid (B2.out.next (by omega) hb3)
        have R3 := Lib.hid (HRD.out.below hb3 (Nat.le_refl _))
        rw [toI_length]
        clear hin3 hb3 c0 c1
        have c0 := B23.out.at0
        have c1 := B23.out.at1
        by_cases h1 : wth k ns = []
        · have HK := Lib.hid (HN.out (by rw [HP.out, h1]; rfl))
          rw [h1]
          clear h1
          go_wp2_with fail
          go_roundw
          case rel => exact ⟨k + 1, a', c', by omega, by go_num, by rw [HK.out], by rw [HK.out]; exact I3.out, B3.out⟩
          case measure => simp [intOf]; omega
        · have hl1 : 0 < (wth k ns).length := List.length_pos_iff.2 h1
          have hd1 : decide ((0 : Int) < ((wth k ns).length : Int)) = true := decide_eq_true (by omega)
          generalize hq1 : (wth k ns).length = L1 at *
          clear hq1
          go_wp2_with fail
          refine (specNo _ ns k (by omega) HC.out.lt32 hl _ R3.out).mono ?_
          rintro e w4 ⟨a4, c4, rfl, hin4, hb4⟩
          have hz4 := hb4.size
          have I4 := Lib.hid (I3.out.below hb4 (Nat.le_refl _))
          have B4 := Lib.hid (B3.out.trans (hb4.mono (by omega)))
          rw [toI_length]
          clear hin4 hb4 c0 c1
          by_cases h2 : wto k ns = []
          · have HK := Lib.hid (HN.out (by rw [HP.out, h2]; simp))
            rw [h2]
            clear h1 h2
            go_wp2_with fail
            go_roundw
            case rel => exact ⟨k + 1, a', c', by omega, by go_num, by rw [HK.out], by rw [HK.out]; exact I4.out, B4.out⟩
            case measure => simp [intOf]; omega
          · have HK := Lib.hid (HY.out (by rw [HP.out]; simp [h1, h2]))
            have hl2 : 0 < (wto k ns).length := List.length_pos_iff.2 h2
            have hd2 : decide ((0 : Int) < ((wto k ns).length : Int)) = true := decide_eq_true (by omega)
            generalize hq2 : (wto k ns).length = L2 at *
            clear hq2 h1 h2
            go_wp2_with (at_builtin; refine wpList_app rfl (.tmp 29) (.tmp 31) rfl w1.heap.size _ (toI A) rfl (by exact I4.out.alloc _) _ _ _ [(k : Int)] rfl (src_cell (by rw [World.cell?_alloc_at _ _ _ _ rfl]; rfl)) (by rw [HAl.out]; omega) (by simp; omega) ?_; intro a1 c1 w5 hin5 hb5 hg5; rw [HAl.out] at hin5; have I5 := Lib.hid hin5; have B5 := Lib.hid (B4.out.trans (Below.trans ((Below.refl _ _).alloc (by omega) _) hb5)); clear hin5 hb5 hg5; rw [HAl.out])
            go_roundw
            case rel => exact ⟨k + 1, a1, c1, by omega, by go_num, by rw [HK.out]; simp, by rw [HK.out, toI_append]; simpa [toI] using I5.out, B5.out⟩
            case measure => simp [intOf]; omega
      · obtain rfl : k = m := by omega
        have HAl := Lib.hid (toI_length ((List.range k).filter (disP ns)))
        generalize (List.range k).filter (disP ns) = A at *
        go_wp2_with fail
        go_ret
        rw [HT.out]
        exact ⟨a', c', by rw [HAl.out]; rfl, by rw [HAl.out]; exact HIN.out.mono (by omega), B2.out.below⟩
  · have HT := Lib.hid (show disL n zs = [] by rw [disL, if_neg hv])
    rw [Bool.not_eq_true] at hv
    have HV := Lib.hid hv
    clear hv
    go_enter Tryd.func26, Tryd.ntmps26
    go_wp2_with fail
    refine (specValid n _ zs _ (H.out.below (k := w.heap.size) (by go_grown) (Nat.le_refl _))).mono ?_
    rintro e w1 ⟨rfl, hb⟩
    rw [HV.out]
    have B1 := Lib.hid (B0.out.next (by simp) hb)
    clear hb
    go_wp2_with fail
    go_ret
    rw [HT.out]
    exact ⟨none, 0, rfl, Ints.nil _ _, B1.out.below⟩

end Go.Proofs.YthjbkjkfibiceaaDoor
