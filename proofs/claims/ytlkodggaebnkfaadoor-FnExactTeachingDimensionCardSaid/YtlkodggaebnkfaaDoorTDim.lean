/- TeachingDimension and EasiestTeaching, the program's and the model's. Conditions: Sets is a slice of ints; the table setsWith is laid. -/
import Derived.Test.YtlkodggaebnkfaaDoorTNums
namespace Go.Proofs.YtlkodggaebnkfaaDoor
open Go.RowKit

/-- the greatest and the least of the first k numbers, -1 for none -/
def gTo (xs : List Int) : Nat → Int
  | 0 => -1
  | k + 1 => if gTo xs k < xs.getD k 0 then xs.getD k 0 else gTo xs k
def sTo (xs : List Int) : Nat → Int
  | 0 => -1
  | k + 1 => if sTo xs k < 0 ∨ xs.getD k 0 < sTo xs k then xs.getD k 0 else sTo xs k
def natural (xs : List Int) : Prop := ∀ k, k < xs.length → 0 ≤ xs.getD k 0
theorem gTo_step (xs : List Int) (k : Nat) : gTo xs (k + 1) = if gTo xs k < xs.getD k 0 then xs.getD k 0 else gTo xs k := rfl
theorem sTo_step (xs : List Int) (k : Nat) : sTo xs (k + 1) = if sTo xs k < 0 ∨ xs.getD k 0 < sTo xs k then xs.getD k 0 else sTo xs k := rfl
theorem gTo_bd {xs : List Int} (h : natural xs) (k : Nat) (hk : k < xs.length) : 0 ≤ gTo xs (k + 1) := by
  have h1 := h k hk
  rw [gTo_step]
  by_cases hc : gTo xs k < xs.getD k 0
  · rw [if_pos hc]; exact h1
  · rw [if_neg hc]; omega
theorem gTo_one {xs : List Int} (h : natural xs) (h0 : 0 < xs.length) : gTo xs 1 = xs.getD 0 0 := by
  have h1 := h 0 h0
  have e : gTo xs 0 = -1 := rfl
  rw [gTo_step, if_pos (by omega)]
theorem sTo_bd {xs : List Int} (h : natural xs) (k : Nat) (hk : k < xs.length) : 0 ≤ sTo xs (k + 1) := by
  have h1 := h k hk
  rw [sTo_step]
  by_cases hc : sTo xs k < 0 ∨ xs.getD k 0 < sTo xs k
  · rw [if_pos hc]; exact h1
  · rw [if_neg hc]; omega
theorem sTo_one (xs : List Int) : sTo xs 1 = xs.getD 0 0 := by
  have e : sTo xs 0 = -1 := rfl
  rw [sTo_step, if_pos (.inl (by omega))]

set_option maxHeartbeats 800000 in
theorem slicesMax (v : Value) (xs : List Int) (w : World) (h : Rd w v xs) (hn : natural xs) (h0 : 0 < xs.length) :
    Calls Tryd.prog 50 #[v] w fun e w' => e = .returned (.int .i64 (gTo xs xs.length)) ∧ w = w' := by
  obtain ⟨a, b, off, cap, rfl, h1, h3, h5⟩ := h
  have H5 := Lib.hid h5
  have HG := Lib.hid (gTo_one hn h0)
  obtain ⟨rfl, _⟩ := h1 h0
  have hc0 := h5 0 h0
  rw [Nat.add_zero] at hc0
  generalize xs.getD 0 0 = x0 at hc0 HG
  clear h5
  have h0I : (0 : Int) < (xs.length : Int) := by omega
  have h0J : ¬ (xs.length : Int) < 1 := by omega
  go_enter Tryd.func50, Tryd.ntmps50
  go_wp2
  go_loop [3, 4] (fun m i => ∃ k : Nat, 0 < k ∧ k ≤ xs.length ∧ i = .int .i64 k ∧ m = .int .i64 (gTo xs k)) (fun _ i => xs.length - (intOf i).toNat)
  case atStart => exact ⟨1, by omega, by omega, rfl, by rw [HG.out]⟩
  case round =>
    obtain ⟨k, hk0, hk, rfl, rfl⟩ := hrel
    by_cases hlt : k < xs.length
    · have hc := H5.out k hlt
      have HS := Lib.hid (show gTo xs (k + 1) = if gTo xs k < xs.getD k 0 then xs.getD k 0 else gTo xs k from rfl)
      generalize xs.getD k 0 = x at *
      generalize gTo xs k = g at *
      by_cases hx : g < x
      · have HE := Lib.hid (HS.out.trans (if_pos hx))
        go_wp2
        go_round
        case rel => exact ⟨k + 1, by omega, by omega, by go_num, by rw [HE.out]⟩
        case measure => simp [intOf]; omega
      · have HE := Lib.hid (HS.out.trans (if_neg hx))
        go_wp2
        go_round
        case rel => exact ⟨k + 1, by omega, by omega, by go_num, by rw [HE.out]⟩
        case measure => simp [intOf]; omega
    · obtain rfl : k = xs.length := by omega
      go_wp2
      go_ret
      exact ⟨rfl, rfl⟩

set_option maxHeartbeats 800000 in
theorem slicesMin (v : Value) (xs : List Int) (w : World) (h : Rd w v xs) (hn : natural xs) (h0 : 0 < xs.length) :
    Calls Tryd.prog 52 #[v] w fun e w' => e = .returned (.int .i64 (sTo xs xs.length)) ∧ w = w' := by
  obtain ⟨a, b, off, cap, rfl, h1, h3, h5⟩ := h
  have H5 := Lib.hid h5
  have HG := Lib.hid (sTo_one xs)
  have HB := Lib.hid (fun k hk => sTo_bd hn k hk)
  obtain ⟨rfl, _⟩ := h1 h0
  have hc0 := h5 0 h0
  rw [Nat.add_zero] at hc0
  generalize xs.getD 0 0 = x0 at hc0 HG
  clear h5
  have h0I : (0 : Int) < (xs.length : Int) := by omega
  have h0J : ¬ (xs.length : Int) < 1 := by omega
  go_enter Tryd.func52, Tryd.ntmps52
  go_wp2
  go_loop [3, 4] (fun m i => ∃ k : Nat, 0 < k ∧ k ≤ xs.length ∧ i = .int .i64 k ∧ m = .int .i64 (sTo xs k)) (fun _ i => xs.length - (intOf i).toNat)
  case atStart => exact ⟨1, by omega, by omega, rfl, by rw [HG.out]⟩
  case round =>
    obtain ⟨k, hk0, hk, rfl, rfl⟩ := hrel
    by_cases hlt : k < xs.length
    · have hc := H5.out k hlt
      have HS := Lib.hid (show sTo xs (k + 1) = if sTo xs k < 0 ∨ xs.getD k 0 < sTo xs k then xs.getD k 0 else sTo xs k from rfl)
      have hg0 := HB.out (k - 1) (by omega)
      rw [show k - 1 + 1 = k by omega] at hg0
      generalize xs.getD k 0 = x at *
      generalize sTo xs k = g at *
      by_cases hx : x < g
      · have HE := Lib.hid (HS.out.trans (if_pos (.inr hx)))
        go_wp2
        go_round
        case rel => exact ⟨k + 1, by omega, by omega, by go_num, by rw [HE.out]⟩
        case measure => simp [intOf]; omega
      · have HE := Lib.hid (HS.out.trans (if_neg (fun h => h.elim (fun h => by omega) hx)))
        go_wp2
        go_round
        case rel => exact ⟨k + 1, by omega, by omega, by go_num, by rw [HE.out]⟩
        case measure => simp [intOf]; omega
    · obtain rfl : k = xs.length := by omega
      go_wp2
      go_ret
      exact ⟨rfl, rfl⟩

set_option maxHeartbeats 800000 in
theorem specGreatest (v : Value) (xs : List Int) (w : World) (h : Rd w v xs) :
    Calls Tryd.prog 49 #[v] w fun e w' => e = .returned (.int .i64 (gTo xs xs.length)) ∧ w = w' := by
  obtain ⟨a, b, off, cap, rfl, h1, h3, h5⟩ := h
  have H5 := Lib.hid h5
  have H1 := Lib.hid h1
  clear h5 h1
  go_enter Tryd.func49, Tryd.ntmps49
  go_wp2
  go_loop [3, 4] (fun m i => ∃ k : Nat, k ≤ xs.length ∧ i = .int .i64 k ∧ m = .int .i64 (gTo xs k)) (fun _ i => xs.length - (intOf i).toNat)
  case atStart => exact ⟨0, by omega, rfl, rfl⟩
  case round =>
    obtain ⟨k, hk, rfl, rfl⟩ := hrel
    by_cases hlt : k < xs.length
    · obtain ⟨rfl, _⟩ := H1.out (by omega)
      have hc := H5.out k hlt
      have HS := Lib.hid (gTo_step xs k)
      generalize xs.getD k 0 = x at *
      generalize gTo xs k = g at *
      by_cases hx : g < x
      · have HE := Lib.hid (HS.out.trans (if_pos hx))
        go_wp2
        go_round
        case rel => exact ⟨k + 1, by omega, by go_num, by rw [HE.out]⟩
        case measure => simp [intOf]; omega
      · have HE := Lib.hid (HS.out.trans (if_neg hx))
        go_wp2
        go_round
        case rel => exact ⟨k + 1, by omega, by go_num, by rw [HE.out]⟩
        case measure => simp [intOf]; omega
    · obtain rfl : k = xs.length := by omega
      go_wp2
      go_ret
      exact ⟨rfl, rfl⟩

set_option maxHeartbeats 800000 in
theorem specSmallest (v : Value) (xs : List Int) (w : World) (h : Rd w v xs) :
    Calls Tryd.prog 51 #[v] w fun e w' => e = .returned (.int .i64 (sTo xs xs.length)) ∧ w = w' := by
  obtain ⟨a, b, off, cap, rfl, h1, h3, h5⟩ := h
  have H5 := Lib.hid h5
  have H1 := Lib.hid h1
  clear h5 h1
  go_enter Tryd.func51, Tryd.ntmps51
  go_wp2
  go_loop [3, 4] (fun m i => ∃ k : Nat, k ≤ xs.length ∧ i = .int .i64 k ∧ m = .int .i64 (sTo xs k)) (fun _ i => xs.length - (intOf i).toNat)
  case atStart => exact ⟨0, by omega, rfl, rfl⟩
  case round =>
    obtain ⟨k, hk, rfl, rfl⟩ := hrel
    by_cases hlt : k < xs.length
    · obtain ⟨rfl, _⟩ := H1.out (by omega)
      have hc := H5.out k hlt
      have HS := Lib.hid (sTo_step xs k)
      generalize xs.getD k 0 = x at *
      generalize sTo xs k = g at *
      by_cases hg : g < 0
      · have HE := Lib.hid (HS.out.trans (if_pos (.inl hg)))
        go_wp2
        go_round
        case rel => exact ⟨k + 1, by omega, by go_num, by rw [HE.out]⟩
        case measure => simp [intOf]; omega
      · by_cases hx : x < g
        · have HE := Lib.hid (HS.out.trans (if_pos (.inr hx)))
          go_wp2
          go_round
          case rel => exact ⟨k + 1, by omega, by go_num, by rw [HE.out]⟩
          case measure => simp [intOf]; omega
        · have HE := Lib.hid (HS.out.trans (if_neg (fun h => h.elim hg hx)))
          go_wp2
          go_round
          case rel => exact ⟨k + 1, by omega, by go_num, by rw [HE.out]⟩
          case measure => simp [intOf]; omega
    · obtain rfl : k = xs.length := by omega
      go_wp2
      go_ret
      exact ⟨rfl, rfl⟩

theorem tnsL_nat (n : Int) (zs : List Int) : natural (tnsL n zs) := fun k hk => by
  have hm : (tnsL n zs).getD k 0 ∈ tnsL n zs := by
    rw [List.getD_eq_getElem?_getD, List.getElem?_eq_getElem hk]
    exact List.getElem_mem hk
  unfold tnsL at hm ⊢
  split at hm
  · rename_i hv
    rw [if_pos hv]
    obtain ⟨u, _, e⟩ := List.mem_map.1 hm
    rw [← e]
    exact Int.natCast_nonneg _
  · simp at hm
/-- TeachingDimension's and EasiestTeaching's answers -/
def tdB (n : Int) (zs : List Int) : Int := gTo (tnsL n zs) (tnsL n zs).length
def etB (n : Int) (zs : List Int) : Int := sTo (tnsL n zs) (tnsL n zs).length

set_option maxRecDepth 100000 in
set_option maxHeartbeats 1600000 in
theorem implTeachingDimension (n : Int) (v : Value) (zs : List Int) (w : World) (h : Rd w v zs) (hsw : SW w) :
    Calls Tryd.prog 27 #[.agg #[.int .i64 n, v]] w fun e w' => e = .returned (.int .i64 (tdB n zs)) ∧ Below w.heap.size w w' := by
  have H := Lib.hid h
  have HSW := Lib.hid hsw
  clear hsw
  have HT := Lib.hid (fun w0 h0 hs0 => implTeachingNumbers n v zs w0 h0 hs0)
  have HN := Lib.hid (tnsL_nat n zs)
  have HD := Lib.hid (show tdB n zs = gTo (tnsL n zs) (tnsL n zs).length from rfl)
  have hln := tnsL_len n zs
  rw [HD.out]
  obtain ⟨a, b, off, cap, rfl, _, h3, _⟩ := h
  generalize tnsL n zs = L at *
  by_cases hL : L.length = 0
  · have HE := Lib.hid (show gTo L L.length = -1 by rw [hL]; rfl)
    rw [HE.out]
    go_enter Tryd.func27, Tryd.ntmps27
    go_wp2_with fail
    refine (HT.out _ (H.out.below (by go_grown) (Nat.le_refl _)) (HSW.out.next (by go_grown))).mono ?_
    rintro e w1 ⟨a1, c1, rfl, hin, hb⟩
    have B1 := Lib.hid ((Box.made n (.slice a zs.length cap) w _).next (by simp) hb)
    clear hb hin
    rw [hL]
    go_wp2_with fail
    go_ret
    exact ⟨rfl, B1.out.below⟩
  · have hd1 : ((L.length : Int) == 0) = false := by simpa using (show ¬ (L.length : Int) = 0 by omega)
    go_enter Tryd.func27, Tryd.ntmps27
    go_wp2_with fail
    refine (HT.out _ (H.out.below (by go_grown) (Nat.le_refl _)) (HSW.out.next (by go_grown))).mono ?_
    rintro e w1 ⟨a1, c1, rfl, hin, hb⟩
    have B1 := Lib.hid ((Box.made n (.slice a zs.length cap) w _).next (by simp) hb)
    have HM := Lib.hid (slicesMax _ L w1 hin.rd HN.out (by omega))
    clear hb hin
    go_wp2_with fail
    refine HM.out.mono ?_
    rintro e w2 ⟨rfl, rfl⟩
    go_wp2_with fail
    go_ret
    exact ⟨rfl, B1.out.below⟩

set_option maxRecDepth 100000 in
set_option maxHeartbeats 1600000 in
theorem specTeachingDimension (n : Int) (v : Value) (zs : List Int) (w : World) (h : Rd w v zs) :
    Calls Tryd.prog 26 #[.agg #[.int .i64 n, v]] w fun e w' => e = .returned (.int .i64 (tdB n zs)) ∧ Below w.heap.size w w' := by
  have H := Lib.hid h
  obtain ⟨a, b, off, cap, rfl, _, _, _⟩ := h
  have HV := Lib.hid (fun w0 h0 => specValid n (.slice a zs.length cap) zs w0 h0)
  by_cases hv : vldB n zs = true
  · obtain ⟨m, ns, rfl, rfl, hc⟩ := vldB_cls hv
    have HE := Lib.hid (fun w0 h0 => specEfforts m (.slice a (toI ns).length cap) ns w0 hc h0)
    have HD := Lib.hid (show tdB (m : Int) (toI ns) = gTo (tns m ns) (tns m ns).length by rw [tdB, tnsL_in hv])
    rw [HD.out]
    rw [hv] at HV
    clear hv hc HD
    generalize tns m ns = vs at *
    go_enter Tryd.func26, Tryd.ntmps26
    go_wp2_with fail
    refine (HV.out _ (H.out.below (by go_grown) (Nat.le_refl _))).mono ?_
    rintro e w1 ⟨rfl, hb⟩
    have B1 := Lib.hid ((Box.made (m : Int) (.slice a (toI ns).length cap) w _).next (by simp) hb)
    clear hb
    have c0 := B1.out.at0
    have c1 := B1.out.at1
    go_wp2_with fail
    refine (HE.out _ (H.out.below B1.out.below (Nat.le_refl _))).mono ?_
    rintro e w2 ⟨a2, c2, rfl, hin, hb⟩
    have HB := Lib.hid (B1.out.below.trans (hb.mono B1.out.below.size))
    have HM := Lib.hid (specGreatest _ vs w2 hin.rd)
    clear hb hin
    go_wp2_with fail
    refine HM.out.mono ?_
    rintro e w3 ⟨rfl, rfl⟩
    go_wp2_with fail
    go_ret
    exact ⟨rfl, HB.out⟩
  · rw [Bool.not_eq_true] at hv
    have HD := Lib.hid (show tdB n zs = -1 by rw [tdB, tnsL_bad hv]; rfl)
    rw [HD.out]
    rw [hv] at HV
    clear hv HD
    go_enter Tryd.func26, Tryd.ntmps26
    go_wp2_with fail
    refine (HV.out _ (H.out.below (by go_grown) (Nat.le_refl _))).mono ?_
    rintro e w1 ⟨rfl, hb⟩
    have B1 := Lib.hid ((Box.made n (.slice a zs.length cap) w _).next (by simp) hb)
    clear hb
    go_wp2_with fail
    go_ret
    exact ⟨rfl, B1.out.below⟩

set_option maxRecDepth 100000 in
set_option maxHeartbeats 1600000 in
theorem implEasiestTeaching (n : Int) (v : Value) (zs : List Int) (w : World) (h : Rd w v zs) (hsw : SW w) :
    Calls Tryd.prog 29 #[.agg #[.int .i64 n, v]] w fun e w' => e = .returned (.int .i64 (etB n zs)) ∧ Below w.heap.size w w' := by
  have H := Lib.hid h
  have HSW := Lib.hid hsw
  clear hsw
  have HT := Lib.hid (fun w0 h0 hs0 => implTeachingNumbers n v zs w0 h0 hs0)
  have HN := Lib.hid (tnsL_nat n zs)
  have HD := Lib.hid (show etB n zs = sTo (tnsL n zs) (tnsL n zs).length from rfl)
  have hln := tnsL_len n zs
  rw [HD.out]
  obtain ⟨a, b, off, cap, rfl, _, h3, _⟩ := h
  generalize tnsL n zs = L at *
  by_cases hL : L.length = 0
  · have HE := Lib.hid (show sTo L L.length = -1 by rw [hL]; rfl)
    rw [HE.out]
    go_enter Tryd.func29, Tryd.ntmps29
    go_wp2_with fail
    refine (HT.out _ (H.out.below (by go_grown) (Nat.le_refl _)) (HSW.out.next (by go_grown))).mono ?_
    rintro e w1 ⟨a1, c1, rfl, hin, hb⟩
    have B1 := Lib.hid ((Box.made n (.slice a zs.length cap) w _).next (by simp) hb)
    clear hb hin
    rw [hL]
    go_wp2_with fail
    go_ret
    exact ⟨rfl, B1.out.below⟩
  · have hd1 : ((L.length : Int) == 0) = false := by simpa using (show ¬ (L.length : Int) = 0 by omega)
    go_enter Tryd.func29, Tryd.ntmps29
    go_wp2_with fail
    refine (HT.out _ (H.out.below (by go_grown) (Nat.le_refl _)) (HSW.out.next (by go_grown))).mono ?_
    rintro e w1 ⟨a1, c1, rfl, hin, hb⟩
    have B1 := Lib.hid ((Box.made n (.slice a zs.length cap) w _).next (by simp) hb)
    have HM := Lib.hid (slicesMin _ L w1 hin.rd HN.out (by omega))
    clear hb hin
    go_wp2_with fail
    refine HM.out.mono ?_
    rintro e w2 ⟨rfl, rfl⟩
    go_wp2_with fail
    go_ret
    exact ⟨rfl, B1.out.below⟩

set_option maxRecDepth 100000 in
set_option maxHeartbeats 1600000 in
theorem specEasiestTeaching (n : Int) (v : Value) (zs : List Int) (w : World) (h : Rd w v zs) :
    Calls Tryd.prog 28 #[.agg #[.int .i64 n, v]] w fun e w' => e = .returned (.int .i64 (etB n zs)) ∧ Below w.heap.size w w' := by
  have H := Lib.hid h
  obtain ⟨a, b, off, cap, rfl, _, _, _⟩ := h
  have HV := Lib.hid (fun w0 h0 => specValid n (.slice a zs.length cap) zs w0 h0)
  by_cases hv : vldB n zs = true
  · obtain ⟨m, ns, rfl, rfl, hc⟩ := vldB_cls hv
    have HE := Lib.hid (fun w0 h0 => specEfforts m (.slice a (toI ns).length cap) ns w0 hc h0)
    have HD := Lib.hid (show etB (m : Int) (toI ns) = sTo (tns m ns) (tns m ns).length by rw [etB, tnsL_in hv])
    rw [HD.out]
    rw [hv] at HV
    clear hv hc HD
    generalize tns m ns = vs at *
    go_enter Tryd.func28, Tryd.ntmps28
    go_wp2_with fail
    refine (HV.out _ (H.out.below (by go_grown) (Nat.le_refl _))).mono ?_
    rintro e w1 ⟨rfl, hb⟩
    have B1 := Lib.hid ((Box.made (m : Int) (.slice a (toI ns).length cap) w _).next (by simp) hb)
    clear hb
    have c0 := B1.out.at0
    have c1 := B1.out.at1
    go_wp2_with fail
    refine (HE.out _ (H.out.below B1.out.below (Nat.le_refl _))).mono ?_
    rintro e w2 ⟨a2, c2, rfl, hin, hb⟩
    have HB := Lib.hid (B1.out.below.trans (hb.mono B1.out.below.size))
    have HM := Lib.hid (specSmallest _ vs w2 hin.rd)
    clear hb hin
    go_wp2_with fail
    refine HM.out.mono ?_
    rintro e w3 ⟨rfl, rfl⟩
    go_wp2_with fail
    go_ret
    exact ⟨rfl, HB.out⟩
  · rw [Bool.not_eq_true] at hv
    have HD := Lib.hid (show etB n zs = -1 by rw [etB, tnsL_bad hv]; rfl)
    rw [HD.out]
    rw [hv] at HV
    clear hv HD
    go_enter Tryd.func28, Tryd.ntmps28
    go_wp2_with fail
    refine (HV.out _ (H.out.below (by go_grown) (Nat.le_refl _))).mono ?_
    rintro e w1 ⟨rfl, hb⟩
    have B1 := Lib.hid ((Box.made n (.slice a zs.length cap) w _).next (by simp) hb)
    clear hb
    go_wp2_with fail
    go_ret
    exact ⟨rfl, B1.out.below⟩

end Go.Proofs.YtlkodggaebnkfaaDoor
