/- DistanceIn for other arguments, the program's; the model's. Conditions: Sets is a slice of ints. -/
import Derived.Test.YtbjaacppomobeaaDisC
namespace Go.Proofs.Ytbjaacppomobeaa
open Go.RowKit

theorem slIndexAny (v : Value) (xs : List Int) (x : Int) (w : World) (h : Rd w v xs) : ∃ r : Int, (hasB xs x = false → r = -1) ∧ (hasB xs x = true → ¬ r < 0) ∧ Calls Try.prog 96 #[v, .int .i64 x] w fun e w' => e = .returned (.int .i64 r) ∧ w = w' := by
  cases hh : hasB xs x with
  | true =>
    obtain ⟨j, h1, h2, h3⟩ := first_at xs x hh
    exact ⟨j, fun k => by simp at k, fun _ => by omega, slIndexIn v xs x j w h h1 h2 h3⟩
  | false => exact ⟨-1, fun _ => rfl, fun k => by simp at k, slIndexNo v xs x w h (none_at hh)⟩

set_option maxHeartbeats 3200000 in
set_option maxRecDepth 100000 in
theorem implDistNo (n : Int) (v : Value) (zs : List Int) (s t : Int) (w : World) (hk : dOk n zs s t = false) (h : Rd w v zs) :
    Calls Try.prog 56 #[.agg #[.int .i64 n, v], .int .i64 s, .int .i64 t] w fun e w' => e = .returned (.int .i64 (-1)) ∧ Below w.heap.size w w' := by
  have H := Lib.hid h
  obtain ⟨a, b, off, cap, rfl, h1, h3, h5⟩ := h
  clear h1 h5
  have HV := Lib.hid (fun w h => implValid n (.slice a zs.length cap) zs w h)
  have HK := Lib.hid (fun w h => slContains (.slice a zs.length cap) zs t w h)
  have HX := Lib.hid (fun w h => slIndexAny (.slice a zs.length cap) zs s w h)
  have B0 := Lib.hid (Box.made n (.slice a zs.length cap) w 28)
  generalize hL : zs.length = L at *
  clear hL
  obtain ⟨r, hr1, hr2, HI⟩ := HX.out (w.alloc (.cells #[.int .i64 n, .slice a L cap] 28)) (H.out.below (k := w.heap.size) (by go_grown) (Nat.le_refl _))
  have HI' := Lib.hid HI
  have HR1 := Lib.hid hr1
  have HR2 := Lib.hid hr2
  have HK2 := Lib.hid hk
  clear HI hr1 hr2 hk HX
  go_enter Try.func56, Try.ntmps56
  go_wp2_with fail
  refine HI'.out.mono ?_
  rintro e w0 ⟨rfl, hw0⟩
  subst hw0
  go_wp2_with fail
  refine (HV.out _ (H.out.below (k := w.heap.size) (by go_grown) (Nat.le_refl _))).mono ?_
  rintro e w1 ⟨rfl, hb⟩
  have B1 := Lib.hid (B0.out.next (by simp) hb)
  clear hb B0
  have c0 := B1.out.at0
  have c1 := B1.out.at1
  cases hv : vldB n zs with
  | false =>
    clear HK
    go_wp2_with fail
    go_ret
    exact ⟨rfl, B1.out.below⟩
  | true =>
    cases ha : hasB zs s with
    | false =>
      obtain rfl := HR1.out ha
      clear HK ha
      go_wp2_with fail
      go_ret
      exact ⟨rfl, B1.out.below⟩
    | true =>
      have hr := HR2.out ha
      have hbf : hasB zs t = false := by
        have := HK2.out
        simp only [dOk, hv, ha, Bool.true_and] at this
        exact this
      rw [hbf] at HK
      clear ha hbf
      go_wp2_with fail
      refine (HK.out _ (H.out.below B1.out.below (Nat.le_refl _))).mono ?_
      rintro e w0 ⟨rfl, hw0⟩
      subst hw0
      go_wp2_with fail
      go_ret
      exact ⟨rfl, B1.out.below⟩

set_option maxHeartbeats 3200000 in
set_option maxRecDepth 100000 in
theorem specDistNo (n : Int) (v : Value) (zs : List Int) (s t : Int) (w : World) (hk : dOk n zs s t = false) (h : Rd w v zs) :
    Calls Try.prog 55 #[.agg #[.int .i64 n, v], .int .i64 s, .int .i64 t] w fun e w' => e = .returned (.int .i64 (-1)) ∧ Below w.heap.size w w' := by
  have H := Lib.hid h
  obtain ⟨a, b, off, cap, rfl, h1, h3, h5⟩ := h
  clear h1 h5
  have HV := Lib.hid (fun w h => specValid n (.slice a zs.length cap) zs w h)
  have HA := Lib.hid (fun w h => specHasInt (.slice a zs.length cap) zs s w h)
  have HB := Lib.hid (fun w h => specHasInt (.slice a zs.length cap) zs t w h)
  have B0 := Lib.hid (Box.made n (.slice a zs.length cap) w 28)
  have HK2 := Lib.hid hk
  generalize hL : zs.length = L at *
  clear hL hk
  go_enter Try.func55, Try.ntmps55
  go_wp2_with fail
  refine (HV.out _ (H.out.below (k := w.heap.size) (by go_grown) (Nat.le_refl _))).mono ?_
  rintro e w1 ⟨rfl, hb⟩
  have B1 := Lib.hid (B0.out.next (by simp) hb)
  clear hb B0
  have c0 := B1.out.at0
  have c1 := B1.out.at1
  cases hv : vldB n zs with
  | false =>
    clear HA HB
    go_wp2_with fail
    go_ret
    exact ⟨rfl, B1.out.below⟩
  | true =>
    cases ha : hasB zs s with
    | false =>
      rw [ha] at HA
      clear HB ha
      go_wp2_with fail
      refine (HA.out _ (H.out.below B1.out.below (Nat.le_refl _))).mono ?_
      rintro e w0 ⟨rfl, hw0⟩
      subst hw0
      go_wp2_with fail
      go_ret
      exact ⟨rfl, B1.out.below⟩
    | true =>
      have hbf : hasB zs t = false := by
        have := HK2.out
        simp only [dOk, hv, ha, Bool.true_and] at this
        exact this
      rw [ha] at HA
      rw [hbf] at HB
      clear ha hbf
      go_wp2_with fail
      refine (HA.out _ (H.out.below B1.out.below (Nat.le_refl _))).mono ?_
      rintro e w0 ⟨rfl, hw0⟩
      subst hw0
      go_wp2_with fail
      refine (HB.out _ (H.out.below B1.out.below (Nat.le_refl _))).mono ?_
      rintro e w0 ⟨rfl, hw0⟩
      subst hw0
      go_wp2_with fail
      go_ret
      exact ⟨rfl, B1.out.below⟩

set_option maxHeartbeats 3200000 in
set_option maxRecDepth 100000 in
theorem specDistIn (m : Nat) (ns : List Nat) (i j : Nat) (v : Value) (w : World) (hc : Cls m ns) (hv : vldB m (toI ns) = true) (hi : i < ns.length) (hj : j < ns.length) (h : Rd w v (toI ns)) :
    Calls Try.prog 55 #[.agg #[.int .i64 m, v], .int .i64 ((ns.getD i 0 : Nat) : Int), .int .i64 ((ns.getD j 0 : Nat) : Int)] w fun e w' => ∃ d, e = .returned (.int .i64 d) ∧ Dst (nR ns) i j d ∧ Below w.heap.size w w' := by
  have H := Lib.hid h
  obtain ⟨a, b, off, cap, rfl, h1, h3, h5⟩ := h
  rw [toI_length] at H h1 h3 h5 ⊢
  have HI := Lib.hid (fun w h => specIndexInt (.slice a ns.length cap) (toI ns) ((ns.getD i 0 : Nat) : Int) i w h (by rw [toI_length]; exact hi) (toI_getD ns i) (at_first hc hi))
  have HJ := Lib.hid (fun w h => specIndexInt (.slice a ns.length cap) (toI ns) ((ns.getD j 0 : Nat) : Int) j w h (by rw [toI_length]; exact hj) (toI_getD ns j) (at_first hc hj))
  have HV := Lib.hid (fun w h => specValid m (.slice a ns.length cap) (toI ns) w h)
  rw [hv] at HV
  have HA := Lib.hid (fun w h => specHasInt (.slice a ns.length cap) (toI ns) ((ns.getD i 0 : Nat) : Int) w h)
  have HB := Lib.hid (fun w h => specHasInt (.slice a ns.length cap) (toI ns) ((ns.getD j 0 : Nat) : Int) w h)
  rw [at_hasB hi] at HA
  rw [at_hasB hj] at HB
  have HS := Lib.hid (fun w h => specSteps (.slice a ns.length cap) ns i w hc.length hc.lt32 hi h)
  have B0 := Lib.hid (Box.made m (.slice a ns.length cap) w 28)
  have hjI : (j : Int) < (ns.length : Int) := by omega
  clear h1 h5 hv hc
  generalize ns.getD i 0 = x at *
  generalize ns.getD j 0 = y at *
  go_enter Try.func55, Try.ntmps55
  go_wp2_with fail
  refine (HV.out _ (H.out.below (k := w.heap.size) (by go_grown) (Nat.le_refl _))).mono ?_
  rintro e w1 ⟨rfl, hb⟩
  have B1 := Lib.hid (B0.out.next (by simp) hb)
  have hs1 : w.heap.size < w1.heap.size := by have := hb.size; simp at this; omega
  clear hb B0
  have c0 := B1.out.at0
  have c1 := B1.out.at1
  go_wp2_with fail
  refine (HA.out _ (H.out.below B1.out.below (Nat.le_refl _))).mono ?_
  rintro e w0 ⟨rfl, hw0⟩
  subst hw0
  go_wp2_with fail
  refine (HB.out _ (H.out.below B1.out.below (Nat.le_refl _))).mono ?_
  rintro e w0 ⟨rfl, hw0⟩
  subst hw0
  go_wp2_with fail
  refine wp_region_held_drew (S := fun w' => w'.cell? ⟨w.heap.size, 1, none⟩ = some (.slice a ns.length cap)) (by kernel_rfl) (by first | exact c1 | go_keep) (fun hHeld => ?_)
  refine wpAnyH_take (i := 0) (v := ?_) rfl (by kernel_rfl) (by kernel_rfl) (by kernel_rfl) (fun _ _ _ h => h) (Or.inl ⟨by rfl, ?_⟩) (by assumption) ?_
  rotate_left
  · (intro w hSw; (try dsimp only at hSw); go_simp; try with_reducible rfl)
  try simp only [List.getElem_toArray, List.getElem_cons_zero, Act.put, List.setIfInBounds_toArray, List.set_cons_zero, List.set_cons_succ]
  refine wpAnyH_take (i := 1) (v := ?_) rfl (by kernel_rfl) (by kernel_rfl) (by kernel_rfl) (fun _ _ _ h => h) (Or.inl ⟨by rfl, ?_⟩) (by assumption) ?_
  rotate_left
  · (intro w hSw; (try dsimp only at hSw); go_simp; try with_reducible rfl)
  try simp only [List.getElem_toArray, List.getElem_cons_zero, List.getElem_cons_succ, Act.put, List.setIfInBounds_toArray, List.set_cons_zero, List.set_cons_succ]
  refine wpAnyH_take (i := 2) (v := ?_) rfl (by kernel_rfl) (by kernel_rfl) (by kernel_rfl) (fun _ _ _ h => h) (Or.inl ⟨by rfl, ?_⟩) (by assumption) ?_
  rotate_left
  · (intro w hSw; (try dsimp only at hSw); go_simp; try with_reducible rfl)
  try simp only [List.getElem_toArray, List.getElem_cons_zero, List.getElem_cons_succ, Act.put, List.setIfInBounds_toArray, List.set_cons_zero, List.set_cons_succ]
  refine wpAnyH_take (i := 3) (v := ?_) rfl (by kernel_rfl) (by kernel_rfl) (by kernel_rfl) (fun _ _ _ h => h) (Or.inl ⟨by rfl, ?_⟩) (by assumption) ?_
  rotate_left
  · (intro w hSw; (try dsimp only at hSw); go_simp; try with_reducible rfl)
  try simp only [List.getElem_toArray, List.getElem_cons_zero, List.getElem_cons_succ, Act.put, List.setIfInBounds_toArray, List.set_cons_zero, List.set_cons_succ]
  refine wpAnyH_take (i := 4) (v := ?_) rfl (by kernel_rfl) (by kernel_rfl) (by kernel_rfl) (fun _ _ _ h => h) (Or.inl ⟨by rfl, ?_⟩) (by assumption) ?_
  rotate_left
  · (intro w hSw; (try dsimp only at hSw); go_simp; try with_reducible rfl)
  try simp only [List.getElem_toArray, List.getElem_cons_zero, List.getElem_cons_succ, Act.put, List.setIfInBounds_toArray, List.set_cons_zero, List.set_cons_succ]
  refine wpAnyH_take (i := 7) (v := ?_) rfl (by kernel_rfl) (by kernel_rfl) (by kernel_rfl) (fun _ _ _ h => h) (Or.inl ⟨by rfl, ?_⟩) (by assumption) ?_
  rotate_left
  · (intro w hSw; (try dsimp only at hSw); go_simp; try with_reducible rfl)
  try simp only [List.getElem_toArray, List.getElem_cons_zero, List.getElem_cons_succ, Act.put, List.setIfInBounds_toArray, List.set_cons_zero, List.set_cons_succ]
  refine wpAnyH_take (i := 8) (v := ?_) rfl (by kernel_rfl) (by kernel_rfl) (by kernel_rfl) (fun _ _ _ h => h) (Or.inl ⟨by rfl, ?_⟩) (by assumption) ?_
  rotate_left
  · (intro w hSw; (try dsimp only at hSw); go_simp; try with_reducible rfl)
  try simp only [List.getElem_toArray, List.getElem_cons_zero, List.getElem_cons_succ, Act.put, List.setIfInBounds_toArray, List.set_cons_zero, List.set_cons_succ]
  refine wpAnyH_take (i := 9) (v := ?_) rfl (by kernel_rfl) (by kernel_rfl) (by kernel_rfl) (fun _ _ _ h => h) (Or.inl ⟨by rfl, ?_⟩) (by assumption) ?_
  rotate_left
  · (intro w hSw; (try dsimp only at hSw); go_simp; try with_reducible rfl)
  try simp only [List.getElem_toArray, List.getElem_cons_zero, List.getElem_cons_succ, Act.put, List.setIfInBounds_toArray, List.set_cons_zero, List.set_cons_succ]
  refine wpAnyH_ready (rs := [5]) (by kernel_rfl) (by simp) ?_
  refine AllReadyH.cons rfl (fun K hK => ?_) AllReadyH.nil
  try simp only [List.getElem_toArray]
  go_simp
  (go_at_call 95; refine (HI.out _ (H.out.below (k := w.heap.size) (by first | exact B1.out.below | exact B1.out.below.drew) (Nat.le_refl _))).mono ?_; rintro e w9 ⟨rfl, hw9⟩; subst hw9)
  refine hK.out _ _ (by first | exact c1 | go_keep) (fun hHeld => ?_)
  clear hK K
  try simp only [List.getElem_toArray, List.getElem_cons_zero, List.getElem_cons_succ, Act.put, List.setIfInBounds_toArray, List.set_cons_zero, List.set_cons_succ]
  refine wpAnyH_ready (rs := [6]) (by kernel_rfl) (by simp) ?_
  refine AllReadyH.cons rfl (fun K hK => ?_) AllReadyH.nil
  try simp only [List.getElem_toArray]
  go_simp
  (go_at_call 94; refine (HS.out _ (H.out.below (k := w.heap.size) (by first | exact B1.out.below | exact B1.out.below.drew) (Nat.le_refl _))).mono ?_; rintro e w2 ⟨st, a2, c2, rfl, hin2, hst, hbd⟩; have hb2 : Below w1.heap.size w1 w2 := (by first | exact hbd | exact ⟨hbd.os, hbd.tape, hbd.output, hbd.size, hbd.block⟩); have B2 := Lib.hid (B1.out.next hs1 hb2); have HD := Lib.hid (hst j); obtain ⟨g2, rfl, _, _⟩ := hin2.someAt (by omega); have hcv := (hin2.cellAt j (by rw [mkL_len]; exact hj)).1; rw [mkL_at st hj] at hcv; clear hin2 hst hbd hb2 c0 c1; have c0 := B2.out.at0; have c1 := B2.out.at1)
  refine hK.out _ _ (by first | exact c1 | go_keep) (fun hHeld => ?_)
  clear hK K
  try simp only [List.getElem_toArray, List.getElem_cons_zero, List.getElem_cons_succ, Act.put, List.setIfInBounds_toArray, List.set_cons_zero, List.set_cons_succ]
  refine wpAnyH_ready (rs := [10]) (by kernel_rfl) (by simp) ?_
  refine AllReadyH.cons rfl (fun K hK => ?_) AllReadyH.nil
  try simp only [List.getElem_toArray]
  go_simp
  (go_at_call 95; refine (HJ.out _ (H.out.below (k := w.heap.size) (by first | exact B2.out.below | exact B2.out.below.drew) (Nat.le_refl _))).mono ?_; rintro e w9 ⟨rfl, hw9⟩; subst hw9)
  refine hK.out _ _ (by first | exact c1 | go_keep) (fun hHeld => ?_)
  clear hK K
  try simp only [List.getElem_toArray, List.getElem_cons_zero, List.getElem_cons_succ, Act.put, List.setIfInBounds_toArray, List.set_cons_zero, List.set_cons_succ]
  refine wpAnyH_take (i := 11) (v := ?_) rfl (by kernel_rfl) (by kernel_rfl) (by kernel_rfl) (fun _ _ _ h => h) (Or.inl ⟨by rfl, ?_⟩) (by assumption) ?_
  rotate_left
  · (intro w hSw; (try dsimp only at hSw); go_simp; try with_reducible rfl)
  try simp only [List.getElem_toArray, List.getElem_cons_zero, List.getElem_cons_succ, Act.put, List.setIfInBounds_toArray, List.set_cons_zero, List.set_cons_succ]
  refine wpAnyH_ready (rs := [12]) (by kernel_rfl) (by simp) ?_
  refine AllReadyH.cons rfl (fun K hK => ?_) AllReadyH.nil
  try simp only [List.getElem_toArray]
  go_simp
  skip
  refine hK.out _ _ (by first | exact c1 | go_keep) (fun hHeld => ?_)
  clear hK K
  try simp only [List.getElem_toArray, List.getElem_cons_zero, List.getElem_cons_succ, Act.put, List.setIfInBounds_toArray, List.set_cons_zero, List.set_cons_succ]
  refine wpAnyH_take (i := 13) (v := ?_) rfl (by kernel_rfl) (by kernel_rfl) (by kernel_rfl) (fun _ _ _ h => h) (Or.inl ⟨by rfl, ?_⟩) (by assumption) ?_
  rotate_left
  · (intro w hSw; (try dsimp only at hSw); go_simp; try with_reducible rfl)
  try simp only [List.getElem_toArray, List.getElem_cons_zero, List.getElem_cons_succ, Act.put, List.setIfInBounds_toArray, List.set_cons_zero, List.set_cons_succ]
  refine wpAnyH_done (by kernel_rfl) ?_ _
  go_wp2_with fail
  go_ret
  exact ⟨_, rfl, HD.out, by first | exact B2.out.below | exact B2.out.below.drew⟩

end Go.Proofs.Ytbjaacppomobeaa
