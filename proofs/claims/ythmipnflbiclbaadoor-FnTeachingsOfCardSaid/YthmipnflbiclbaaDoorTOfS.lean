/- TeachingsOf, the model's. Conditions: Sets is a slice of ints. -/
import Derived.Deep.RegionHeld3
import Derived.Test.YthmipnflbiclbaaDoorTOfI
import Derived.Test.YthmipnflbiclbaaDoorZH
import Derived.Test.YthmipnflbiclbaaDoorZW
import Derived.Test.YthmipnflbiclbaaDoorZY
namespace Go.Proofs.YthmipnflbiclbaaDoor
open Go.RowKit

theorem okWrap (k j : Nat) (hk : k < 32) (hj : j < 5) (h : hasX j k = true) : IntKind.i64.wrap ((k : Int) - ((2 ^ j : Nat) : Int)) = ((k - 2 ^ j : Nat) : Int) := by
  have key : ∀ k : Fin 32, ∀ j : Fin 5, hasX j.1 k.1 = true → 2 ^ j.1 ≤ k.1 := by decide +kernel
  have := key ⟨k, hk⟩ ⟨j, hj⟩ h
  dsimp only at this
  rw [IntKind.wrap_i64]
  generalize 2 ^ j = p at *
  omega

set_option maxRecDepth 100000 in
set_option maxHeartbeats 12800000 in
theorem specTeachingsOf (n : Int) (v : Value) (zs : List Int) (t : Int) (w : World) (h : Rd w v zs) :
    Calls Tryd.prog 39 #[.agg #[.int .i64 n, v], .int .i64 t] w (RetInts (tsoL n zs t) w) := by
  have HRd := h
  obtain ⟨a, b, off, cap, rfl, _, _, _⟩ := h
  have H := Lib.hid HRd
  clear HRd
  have HV := Lib.hid (fun w0 h0 => specValid n (.slice a zs.length cap) zs w0 h0)
  have HI := Lib.hid (fun w0 h0 => specHasInt (.slice a zs.length cap) zs t w0 h0)
  have X0 := Lib.hid (Bx.new n (.slice a zs.length cap) w)
  have B0 := Lib.hid ((Below.refl _ w).alloc (Nat.le_refl _) (.cells #[.int .i64 n, .slice a zs.length cap] 25))
  go_enter Tryd.func39, Tryd.ntmps39
  go_wp2_with fail
  generalize (w.alloc (.cells #[.int .i64 n, .slice a zs.length cap] 25)) = w0 at *
  generalize ho : w.heap.size = o at *
  refine (HV.out _ (H.out.below B0.out (by omega))).mono ?_
  rintro e w1 ⟨rfl, hb1⟩
  have X1 := Lib.hid (X0.out.next hb1 X0.out.lt)
  have B1 := Lib.hid (B0.out.trans (hb1.mono (by have := B0.out.size; omega)))
  clear hb1 X0 B0 HV
  have x0 := X1.out.out.at0
  have x1 := X1.out.out.at1
  by_cases hv : vldB n zs = true
  · rw [hv]
    by_cases hh : hasB zs t = true
    · rw [hh] at HI
      obtain ⟨m, ns, rfl, rfl, hc⟩ := vldB_cls hv
      have hm := hc.pts
      obtain ⟨u, rfl, hu⟩ : ∃ u : Nat, t = (u : Int) ∧ u ∈ ns := by
        simp only [hasB, toI, decide_eq_true_eq, List.mem_map] at hh
        obtain ⟨u, hu, e⟩ := hh
        exact ⟨u, e.symm, hu⟩
      have hu2 := hc.lt u hu
      have h32 := pow_le_32 hm
      have hL : ns.length ≤ 1048576 := by have := hc.length; omega
      obtain ⟨q, hq⟩ : ∃ q : Nat, q = 2 ^ m := ⟨_, rfl⟩
      have hqI : (2 : Int) ^ m = (q : Int) := by rw [hq]; simp
      have hin : inB (m : Int) (toI ns) (u : Int) = true := by
        rw [inB, hv, Bool.true_and, Int.toNat_natCast]
        simp only [setB, Bool.and_eq_true, decide_eq_true_eq]
        omega
      have HP := Lib.hid (fun w0 => specPower (m : Int) w0 (by omega) (by omega))
      rw [Int.toNat_natCast, hqI] at HP
      have HX := Lib.hid (fun (s : Nat) (hs : s < 32) w0 h0 => specTeaches (.slice a (toI ns).length cap) ns (u : Int) s w0 hc.lt32 hL hs h0)
      have HB := Lib.hid (show ∀ s, tcB ns (u : Int) s = tch u s ns from fun s => by rw [tcB, hasB_nat, decide_eq_true hu, Int.toNat_natCast]; rfl)
      have HLV := Lib.hid (fun s (hs : s < q) => lvO_all (t := u) (l := ns) hm (show s < 2 ^ m by omega))
      have HQA := Lib.hid (show tsoL (m : Int) (toI ns) (u : Int) = toI (tsoQ u ns q) by rw [tsoL, if_pos hin, Int.toNat_natCast, toNat_toI, hq, tsoQ_all hc hu])
      have hq32 : q ≤ 32 := by omega
      clear hc hin hv hh hu hu2 hL hq hqI h32
      go_wp2_with fail
      refine (HI.out _ (H.out.below B1.out (by omega))).mono ?_
      rintro e w9 ⟨rfl, hw9⟩
      subst w9
      clear HI
      have O1 := Lib.hid (show Ints w1.heap.size (w1.alloc (.cells #[] 3)) (.slice (some ⟨w1.heap.size, 0, none⟩) 0 0) (toI []) from Ints.lit' (Nat.le_refl _) rfl)
      have A1 := Lib.hid ((Below.refl _ w1).alloc (Nat.le_refl _) (.cells #[] 3))
      go_wp2_with fail
      clear x0 x1
      go_loopw [5, 6] (fun x i wr => ∃ (k : Nat) (xs : List Int) (a' : Option Addr) (c' : Nat), k ≤ q ∧ i = .int .i64 k ∧ x = .slice a' xs.length c' ∧ xs = toI (tsoQ u ns k) ∧ Ints w1.heap.size wr (.slice a' xs.length c') xs ∧ Below w1.heap.size w1 wr) (fun _ i _ => q - (intOf i).toNat)
      case atStart => exact ⟨0, [], _, _, Nat.zero_le _, rfl, rfl, rfl, O1.out, A1.out⟩
      case round =>
        obtain ⟨k, xs, a', c', hk, rfl, rfl, hxs, hal, hbe⟩ := hrel
        have HXS := Lib.hid hxs
        have hxl : xs.length ≤ 32 := by rw [hxs, toI_length]; have := tsoQ_len u ns k; omega
        have AL := Lib.hid hal
        have HBE := Lib.hid hbe
        have hz2 := hbe.size
        have X2 := Lib.hid (X1.out.next hbe X1.out.lt)
        have R2 := Lib.hid (H.out.below (B1.out.trans (hbe.mono (by have := B1.out.size; omega))) (by omega))
        clear hal hbe hxs
        have x0 := X2.out.out.at0
        have x1 := X2.out.out.at1
        by_cases hlt : k < q
        · have hkI : (k : Int) < (q : Int) := by omega
          have hk32 : k < 32 := by omega
          have HXk := Lib.hid (HX.out k hk32)
          rw [HB.out] at HXk
          have HLk := Lib.hid (HLV.out k hlt)
          go_wp2_with fail
          refine (HP.out _).mono ?_
          rintro e w9 ⟨rfl, hw9⟩
          subst w9
          go_wp2_with fail
          refine (HXk.out _ R2.out).mono ?_
          rintro e w3 ⟨rfl, hb3⟩
          have hz3 := hb3.size
          have X3 := Lib.hid (X2.out.next hb3 X2.out.lt)
          have R3 := Lib.hid (R2.out.below hb3 (Nat.le_refl _))
          have A3 := Lib.hid (AL.out.below hb3 (Nat.le_refl _))
          have H3 := Lib.hid (HBE.out.trans (hb3.mono HBE.out.size))
          clear hb3 X2 R2 AL HBE x0 x1 HXk
          have HT0 := Lib.hid (show tch u k ns = (tch u k ns && !lvO u ns k 0) by simp [lvO])
          have hkk : ∀ j, hasX j k = true → tch u (k - 2 ^ j) ns = tch u (k - 2 ^ j) ns := fun _ _ => rfl
          clear hkk
          go_wp2_with fail
          go_loopw [7, 8] (fun ok x wr => ∃ (j : Nat) (b : Bool), j ≤ m ∧ x = .int .i64 j ∧ ok = .bool b ∧ b = (tch u k ns && !lvO u ns k j) ∧ Below w3.heap.size w3 wr) (fun _ x _ => m - (intOf x).toNat)
          case atStart => exact ⟨0, _, Nat.zero_le _, rfl, rfl, HT0.out, Below.refl _ _⟩
          case round =>
            obtain ⟨j, b, hj, rfl, rfl, hbv, hbe⟩ := hrel
            have HBV := Lib.hid hbv
            have HBE := Lib.hid hbe
            have hz4 := hbe.size
            have X4 := Lib.hid (X3.out.next hbe X3.out.lt)
            have R4 := Lib.hid (R3.out.below hbe (Nat.le_refl _))
            have A4 := Lib.hid (A3.out.below hbe (Nat.le_refl _))
            clear hbv
            obtain ⟨w4, hw4⟩ : ∃ w4, w4 = wr := ⟨_, rfl⟩
            subst hw4
            clear hbe
            have x0 := X4.out.out.at0
            have x1 := X4.out.out.at1
            by_cases hjm : j < m
            · have hjI : (j : Int) < (m : Int) := by omega
              have HHk := Lib.hid (fun w0 => specHas k j (by omega) (by omega) w0)
              have HLS := Lib.hid (lvO_succ u ns k j)
              cases hx : hasX j k with
              | false =>
                rw [hx] at HHk HLS
                clear hx
                go_wp2_with fail
                refine wp_region_held_drew (S := fun w' => w'.cell? ⟨o, 0, none⟩ = some (.int .i64 (m : Int)) ∧ w'.cell? ⟨o, 1, none⟩ = some (.slice a (toI ns).length cap)) (by kernel_rfl) (by first | exact ⟨x0, x1⟩ | exact ⟨z0, z1⟩ | go_keep) (fun hHeld => ?_)
                refine wpAnyH_take (i := 0) (v := ?_) rfl (by kernel_rfl) (by kernel_rfl) (by kernel_rfl) (fun _ _ _ h => h) (Or.inl ⟨by rfl, ?_⟩) (by assumption) ?_
                rotate_left
                · (intro w hSw; (try dsimp only at hSw); go_simp; try with_reducible rfl)
                try simp only [List.getElem_toArray, List.getElem_cons_zero, Act.put, List.setIfInBounds_toArray, List.set_cons_zero, List.set_cons_succ]
                refine wpAnyH_take (i := 1) (v := ?_) rfl (by kernel_rfl) (by kernel_rfl) (by kernel_rfl) (fun _ _ _ h => h) (Or.inl ⟨by rfl, ?_⟩) (by assumption) ?_
                rotate_left
                · (intro w hSw; (try dsimp only at hSw); go_simp; try with_reducible rfl)
                try simp only [List.getElem_toArray, List.getElem_cons_zero, List.getElem_cons_succ, Act.put, List.setIfInBounds_toArray, List.set_cons_zero, List.set_cons_succ]
                refine wpAnyH_ready (rs := [2]) (by kernel_rfl) (by simp) ?_
                refine AllReadyH.cons rfl (fun K hK => ?_) AllReadyH.nil
                try simp only [List.getElem_toArray]
                go_simp
                (go_at_call 95; refine (HHk.out _).mono ?_; rintro e w98 ⟨rfl, hw98⟩; subst w98)
                refine hK.out _ _ (by first | exact ⟨x0, x1⟩ | exact ⟨z0, z1⟩ | go_keep) (fun hHeld => ?_)
                clear hK K
                try simp only [List.getElem_toArray, List.getElem_cons_zero, List.getElem_cons_succ, Act.put, List.setIfInBounds_toArray, List.set_cons_zero, List.set_cons_succ]
                refine wpAnyH_take (i := 3) (v := ?_) rfl (by kernel_rfl) (by kernel_rfl) (by kernel_rfl) (fun _ _ _ h => h) (Or.inl ⟨by rfl, ?_⟩) (by assumption) ?_
                rotate_left
                · (intro w hSw; (try dsimp only at hSw); go_simp; try with_reducible rfl)
                try simp only [List.getElem_toArray, List.getElem_cons_zero, List.getElem_cons_succ, Act.put, List.setIfInBounds_toArray, List.set_cons_zero, List.set_cons_succ]
                refine wpAnyH_take (i := 4) (v := undef) rfl (by kernel_rfl) (by kernel_rfl) (by kernel_rfl) (fun _ _ _ h => h) (Or.inr ⟨by rfl, rfl⟩) (by assumption) ?_
                try simp only [List.getElem_toArray, List.getElem_cons_zero, List.getElem_cons_succ, Act.put, List.setIfInBounds_toArray, List.set_cons_zero, List.set_cons_succ]
                refine wpAnyH_take (i := 5) (v := undef) rfl (by kernel_rfl) (by kernel_rfl) (by kernel_rfl) (fun _ _ _ h => h) (Or.inr ⟨by rfl, rfl⟩) (by assumption) ?_
                try simp only [List.getElem_toArray, List.getElem_cons_zero, List.getElem_cons_succ, Act.put, List.setIfInBounds_toArray, List.set_cons_zero, List.set_cons_succ]
                refine wpAnyH_take (i := 6) (v := undef) rfl (by kernel_rfl) (by kernel_rfl) (by kernel_rfl) (fun _ _ _ h => h) (Or.inr ⟨by rfl, rfl⟩) (by assumption) ?_
                try simp only [List.getElem_toArray, List.getElem_cons_zero, List.getElem_cons_succ, Act.put, List.setIfInBounds_toArray, List.set_cons_zero, List.set_cons_succ]
                refine wpAnyH_take (i := 7) (v := undef) rfl (by kernel_rfl) (by kernel_rfl) (by kernel_rfl) (fun _ _ _ h => h) (Or.inr ⟨by rfl, rfl⟩) (by assumption) ?_
                try simp only [List.getElem_toArray, List.getElem_cons_zero, List.getElem_cons_succ, Act.put, List.setIfInBounds_toArray, List.set_cons_zero, List.set_cons_succ]
                refine wpAnyH_take (i := 8) (v := undef) rfl (by kernel_rfl) (by kernel_rfl) (by kernel_rfl) (fun _ _ _ h => h) (Or.inr ⟨by rfl, rfl⟩) (by assumption) ?_
                try simp only [List.getElem_toArray, List.getElem_cons_zero, List.getElem_cons_succ, Act.put, List.setIfInBounds_toArray, List.set_cons_zero, List.set_cons_succ]
                refine wpAnyH_take (i := 9) (v := undef) rfl (by kernel_rfl) (by kernel_rfl) (by kernel_rfl) (fun _ _ _ h => h) (Or.inr ⟨by rfl, rfl⟩) (by assumption) ?_
                try simp only [List.getElem_toArray, List.getElem_cons_zero, List.getElem_cons_succ, Act.put, List.setIfInBounds_toArray, List.set_cons_zero, List.set_cons_succ]
                refine wpAnyH_take (i := 10) (v := undef) rfl (by kernel_rfl) (by kernel_rfl) (by kernel_rfl) (fun _ _ _ h => h) (Or.inr ⟨by rfl, rfl⟩) (by assumption) ?_
                try simp only [List.getElem_toArray, List.getElem_cons_zero, List.getElem_cons_succ, Act.put, List.setIfInBounds_toArray, List.set_cons_zero, List.set_cons_succ]
                refine wpAnyH_take (i := 11) (v := undef) rfl (by kernel_rfl) (by kernel_rfl) (by kernel_rfl) (fun _ _ _ h => h) (Or.inr ⟨by rfl, rfl⟩) (by assumption) ?_
                try simp only [List.getElem_toArray, List.getElem_cons_zero, List.getElem_cons_succ, Act.put, List.setIfInBounds_toArray, List.set_cons_zero, List.set_cons_succ]
                refine wpAnyH_take (i := 12) (v := ?_) rfl (by kernel_rfl) (by kernel_rfl) (by kernel_rfl) (fun _ _ _ h => h) (Or.inl ⟨by rfl, ?_⟩) (by assumption) ?_
                rotate_left
                · (intro w hSw; (try dsimp only at hSw); go_simp; try with_reducible rfl)
                try simp only [List.getElem_toArray, List.getElem_cons_zero, List.getElem_cons_succ, Act.put, List.setIfInBounds_toArray, List.set_cons_zero, List.set_cons_succ]
                refine wpAnyH_done (by kernel_rfl) ?_ _
                all_goals
                  go_wp2_with fail
                  go_roundw
                  case rel => exact ⟨j + 1, b, by omega, by go_num, rfl, by rw [HLS.out, Bool.false_and, Bool.or_false]; exact HBV.out, by first | exact HBE.out | exact HBE.out.drew⟩
                  case measure => simp [intOf]; omega
              | true =>
                have hw1 := okWrap k j hk32 (by omega) hx
                have HTk := Lib.hid (HX.out (k - 2 ^ j) (Nat.lt_of_le_of_lt (Nat.sub_le _ _) hk32))
                rw [HB.out] at HTk
                rw [hx] at HHk HLS
                have HPj := Lib.hid (fun w0 => specPower (j : Int) w0 (by omega) (by omega))
                rw [Int.toNat_natCast, show (2 : Int) ^ j = ((2 ^ j : Nat) : Int) by simp] at HPj
                clear hx
                generalize k - 2 ^ j = r at *
                generalize 2 ^ j = pj at *
                cases hx : tch u r ns with
                | false =>
                  rw [hx] at HTk HLS
                  clear hx
                  go_wp2_with fail
                  refine wp_region_held_drew (S := fun w' => w'.cell? ⟨o, 0, none⟩ = some (.int .i64 (m : Int)) ∧ w'.cell? ⟨o, 1, none⟩ = some (.slice a (toI ns).length cap)) (by kernel_rfl) (by first | exact ⟨x0, x1⟩ | exact ⟨z0, z1⟩ | go_keep) (fun hHeld => ?_)
                  refine wpAnyH_take (i := 0) (v := ?_) rfl (by kernel_rfl) (by kernel_rfl) (by kernel_rfl) (fun _ _ _ h => h) (Or.inl ⟨by rfl, ?_⟩) (by assumption) ?_
                  rotate_left
                  · (intro w hSw; (try dsimp only at hSw); go_simp; try with_reducible rfl)
                  try simp only [List.getElem_toArray, List.getElem_cons_zero, Act.put, List.setIfInBounds_toArray, List.set_cons_zero, List.set_cons_succ]
                  refine wpAnyH_take (i := 1) (v := ?_) rfl (by kernel_rfl) (by kernel_rfl) (by kernel_rfl) (fun _ _ _ h => h) (Or.inl ⟨by rfl, ?_⟩) (by assumption) ?_
                  rotate_left
                  · (intro w hSw; (try dsimp only at hSw); go_simp; try with_reducible rfl)
                  try simp only [List.getElem_toArray, List.getElem_cons_zero, List.getElem_cons_succ, Act.put, List.setIfInBounds_toArray, List.set_cons_zero, List.set_cons_succ]
                  refine wpAnyH_ready (rs := [2]) (by kernel_rfl) (by simp) ?_
                  refine AllReadyH.cons rfl (fun K hK => ?_) AllReadyH.nil
                  try simp only [List.getElem_toArray]
                  go_simp
                  (go_at_call 95; refine (HHk.out _).mono ?_; rintro e w98 ⟨rfl, hw98⟩; subst w98)
                  refine hK.out _ _ (by first | exact ⟨x0, x1⟩ | exact ⟨z0, z1⟩ | go_keep) (fun hHeld => ?_)
                  clear hK K
                  try simp only [List.getElem_toArray, List.getElem_cons_zero, List.getElem_cons_succ, Act.put, List.setIfInBounds_toArray, List.set_cons_zero, List.set_cons_succ]
                  refine wpAnyH_take (i := 3) (v := ?_) rfl (by kernel_rfl) (by kernel_rfl) (by kernel_rfl) (fun _ _ _ h => h) (Or.inl ⟨by rfl, ?_⟩) (by assumption) ?_
                  rotate_left
                  · (intro w hSw; (try dsimp only at hSw); go_simp; try with_reducible rfl)
                  try simp only [List.getElem_toArray, List.getElem_cons_zero, List.getElem_cons_succ, Act.put, List.setIfInBounds_toArray, List.set_cons_zero, List.set_cons_succ]
                  refine wpAnyH_take (i := 4) (v := ?_) rfl (by kernel_rfl) (by kernel_rfl) (by kernel_rfl) (fun _ _ _ h => h) (Or.inl ⟨by rfl, ?_⟩) (by assumption) ?_
                  rotate_left
                  · (intro w hSw; (try dsimp only at hSw); go_simp; try with_reducible rfl)
                  try simp only [List.getElem_toArray, List.getElem_cons_zero, List.getElem_cons_succ, Act.put, List.setIfInBounds_toArray, List.set_cons_zero, List.set_cons_succ]
                  refine wpAnyH_take (i := 5) (v := ?_) rfl (by kernel_rfl) (by kernel_rfl) (by kernel_rfl) (fun _ _ _ h => h) (Or.inl ⟨by rfl, ?_⟩) (by assumption) ?_
                  rotate_left
                  · (intro w hSw; (try dsimp only at hSw); go_simp; try with_reducible rfl)
                  try simp only [List.getElem_toArray, List.getElem_cons_zero, List.getElem_cons_succ, Act.put, List.setIfInBounds_toArray, List.set_cons_zero, List.set_cons_succ]
                  refine wpAnyH_take (i := 6) (v := ?_) rfl (by kernel_rfl) (by kernel_rfl) (by kernel_rfl) (fun _ _ _ h => h) (Or.inl ⟨by rfl, ?_⟩) (by assumption) ?_
                  rotate_left
                  · (intro w hSw; (try dsimp only at hSw); go_simp; try with_reducible rfl)
                  try simp only [List.getElem_toArray, List.getElem_cons_zero, List.getElem_cons_succ, Act.put, List.setIfInBounds_toArray, List.set_cons_zero, List.set_cons_succ]
                  refine wpAnyH_take (i := 7) (v := ?_) rfl (by kernel_rfl) (by kernel_rfl) (by kernel_rfl) (fun _ _ _ h => h) (Or.inl ⟨by rfl, ?_⟩) (by assumption) ?_
                  rotate_left
                  · (intro w hSw; (try dsimp only at hSw); go_simp; try with_reducible rfl)
                  try simp only [List.getElem_toArray, List.getElem_cons_zero, List.getElem_cons_succ, Act.put, List.setIfInBounds_toArray, List.set_cons_zero, List.set_cons_succ]
                  refine wpAnyH_take (i := 8) (v := ?_) rfl (by kernel_rfl) (by kernel_rfl) (by kernel_rfl) (fun _ _ _ h => h) (Or.inl ⟨by rfl, ?_⟩) (by assumption) ?_
                  rotate_left
                  · (intro w hSw; (try dsimp only at hSw); go_simp; try with_reducible rfl)
                  try simp only [List.getElem_toArray, List.getElem_cons_zero, List.getElem_cons_succ, Act.put, List.setIfInBounds_toArray, List.set_cons_zero, List.set_cons_succ]
                  refine wpAnyH_ready (rs := [9]) (by kernel_rfl) (by simp) ?_
                  refine AllReadyH.cons rfl (fun K hK => ?_) AllReadyH.nil
                  try simp only [List.getElem_toArray]
                  go_simp
                  (go_at_call 93; refine (HPj.out _).mono ?_; rintro e w97 ⟨rfl, hw97⟩; subst w97)
                  refine hK.out _ _ (by first | exact ⟨x0, x1⟩ | exact ⟨z0, z1⟩ | go_keep) (fun hHeld => ?_)
                  clear hK K
                  try simp only [List.getElem_toArray, List.getElem_cons_zero, List.getElem_cons_succ, Act.put, List.setIfInBounds_toArray, List.set_cons_zero, List.set_cons_succ]
                  refine wpAnyH_take (i := 10) (v := ?_) rfl (by kernel_rfl) (by kernel_rfl) (by kernel_rfl) (fun _ _ _ h => h) (Or.inl ⟨by rfl, ?_⟩) (by assumption) ?_
                  rotate_left
                  · (intro w hSw; (try dsimp only at hSw); go_simp; (try rw [hw1]); try with_reducible rfl)
                  try simp only [List.getElem_toArray, List.getElem_cons_zero, List.getElem_cons_succ, Act.put, List.setIfInBounds_toArray, List.set_cons_zero, List.set_cons_succ]
                  refine wpAnyH_ready (rs := [11]) (by kernel_rfl) (by simp) ?_
                  refine AllReadyH.cons rfl (fun K hK => ?_) AllReadyH.nil
                  try simp only [List.getElem_toArray]
                  go_simp
                  (go_at_call 94; refine (HTk.out _ (by first | exact R4.out | exact R4.out.below (k := w4.heap.size) ((Below.refl _ _).drew) (Nat.le_refl _))).mono ?_; rintro e w5 ⟨rfl, hbd⟩; have hb5 : Below w4.heap.size w4 w5 := (by first | exact hbd | exact ⟨hbd.os, hbd.tape, hbd.output, hbd.size, hbd.block⟩); clear hbd; have X5 := Lib.hid (X4.out.next hb5 X4.out.lt); have H5 := Lib.hid (HBE.out.trans (hb5.mono HBE.out.size)); have z0 := X5.out.out.at0; have z1 := X5.out.out.at1)
                  refine hK.out _ _ (by first | exact ⟨x0, x1⟩ | exact ⟨z0, z1⟩ | go_keep) (fun hHeld => ?_)
                  clear hK K
                  try simp only [List.getElem_toArray, List.getElem_cons_zero, List.getElem_cons_succ, Act.put, List.setIfInBounds_toArray, List.set_cons_zero, List.set_cons_succ]
                  refine wpAnyH_take (i := 12) (v := ?_) rfl (by kernel_rfl) (by kernel_rfl) (by kernel_rfl) (fun _ _ _ h => h) (Or.inl ⟨by rfl, ?_⟩) (by assumption) ?_
                  rotate_left
                  · (intro w hSw; (try dsimp only at hSw); go_simp; try with_reducible rfl)
                  try simp only [List.getElem_toArray, List.getElem_cons_zero, List.getElem_cons_succ, Act.put, List.setIfInBounds_toArray, List.set_cons_zero, List.set_cons_succ]
                  refine wpAnyH_done (by kernel_rfl) ?_ _
                  all_goals
                    go_wp2_with fail
                    go_roundw
                    case rel => exact ⟨j + 1, b, by omega, by go_num, rfl, by rw [HLS.out]; rw [Bool.and_false, Bool.or_false]; exact HBV.out, H5.out⟩
                    case measure => simp [intOf]; omega
                | true =>
                  rw [hx] at HTk HLS
                  clear hx
                  go_wp2_with fail
                  refine wp_region_held_drew (S := fun w' => w'.cell? ⟨o, 0, none⟩ = some (.int .i64 (m : Int)) ∧ w'.cell? ⟨o, 1, none⟩ = some (.slice a (toI ns).length cap)) (by kernel_rfl) (by first | exact ⟨x0, x1⟩ | exact ⟨z0, z1⟩ | go_keep) (fun hHeld => ?_)
                  refine wpAnyH_take (i := 0) (v := ?_) rfl (by kernel_rfl) (by kernel_rfl) (by kernel_rfl) (fun _ _ _ h => h) (Or.inl ⟨by rfl, ?_⟩) (by assumption) ?_
                  rotate_left
                  · (intro w hSw; (try dsimp only at hSw); go_simp; try with_reducible rfl)
                  try simp only [List.getElem_toArray, List.getElem_cons_zero, Act.put, List.setIfInBounds_toArray, List.set_cons_zero, List.set_cons_succ]
                  refine wpAnyH_take (i := 1) (v := ?_) rfl (by kernel_rfl) (by kernel_rfl) (by kernel_rfl) (fun _ _ _ h => h) (Or.inl ⟨by rfl, ?_⟩) (by assumption) ?_
                  rotate_left
                  · (intro w hSw; (try dsimp only at hSw); go_simp; try with_reducible rfl)
                  try simp only [List.getElem_toArray, List.getElem_cons_zero, List.getElem_cons_succ, Act.put, List.setIfInBounds_toArray, List.set_cons_zero, List.set_cons_succ]
                  refine wpAnyH_ready (rs := [2]) (by kernel_rfl) (by simp) ?_
                  refine AllReadyH.cons rfl (fun K hK => ?_) AllReadyH.nil
                  try simp only [List.getElem_toArray]
                  go_simp
                  (go_at_call 95; refine (HHk.out _).mono ?_; rintro e w98 ⟨rfl, hw98⟩; subst w98)
                  refine hK.out _ _ (by first | exact ⟨x0, x1⟩ | exact ⟨z0, z1⟩ | go_keep) (fun hHeld => ?_)
                  clear hK K
                  try simp only [List.getElem_toArray, List.getElem_cons_zero, List.getElem_cons_succ, Act.put, List.setIfInBounds_toArray, List.set_cons_zero, List.set_cons_succ]
                  refine wpAnyH_take (i := 3) (v := ?_) rfl (by kernel_rfl) (by kernel_rfl) (by kernel_rfl) (fun _ _ _ h => h) (Or.inl ⟨by rfl, ?_⟩) (by assumption) ?_
                  rotate_left
                  · (intro w hSw; (try dsimp only at hSw); go_simp; try with_reducible rfl)
                  try simp only [List.getElem_toArray, List.getElem_cons_zero, List.getElem_cons_succ, Act.put, List.setIfInBounds_toArray, List.set_cons_zero, List.set_cons_succ]
                  refine wpAnyH_take (i := 4) (v := ?_) rfl (by kernel_rfl) (by kernel_rfl) (by kernel_rfl) (fun _ _ _ h => h) (Or.inl ⟨by rfl, ?_⟩) (by assumption) ?_
                  rotate_left
                  · (intro w hSw; (try dsimp only at hSw); go_simp; try with_reducible rfl)
                  try simp only [List.getElem_toArray, List.getElem_cons_zero, List.getElem_cons_succ, Act.put, List.setIfInBounds_toArray, List.set_cons_zero, List.set_cons_succ]
                  refine wpAnyH_take (i := 5) (v := ?_) rfl (by kernel_rfl) (by kernel_rfl) (by kernel_rfl) (fun _ _ _ h => h) (Or.inl ⟨by rfl, ?_⟩) (by assumption) ?_
                  rotate_left
                  · (intro w hSw; (try dsimp only at hSw); go_simp; try with_reducible rfl)
                  try simp only [List.getElem_toArray, List.getElem_cons_zero, List.getElem_cons_succ, Act.put, List.setIfInBounds_toArray, List.set_cons_zero, List.set_cons_succ]
                  refine wpAnyH_take (i := 6) (v := ?_) rfl (by kernel_rfl) (by kernel_rfl) (by kernel_rfl) (fun _ _ _ h => h) (Or.inl ⟨by rfl, ?_⟩) (by assumption) ?_
                  rotate_left
                  · (intro w hSw; (try dsimp only at hSw); go_simp; try with_reducible rfl)
                  try simp only [List.getElem_toArray, List.getElem_cons_zero, List.getElem_cons_succ, Act.put, List.setIfInBounds_toArray, List.set_cons_zero, List.set_cons_succ]
                  refine wpAnyH_take (i := 7) (v := ?_) rfl (by kernel_rfl) (by kernel_rfl) (by kernel_rfl) (fun _ _ _ h => h) (Or.inl ⟨by rfl, ?_⟩) (by assumption) ?_
                  rotate_left
                  · (intro w hSw; (try dsimp only at hSw); go_simp; try with_reducible rfl)
                  try simp only [List.getElem_toArray, List.getElem_cons_zero, List.getElem_cons_succ, Act.put, List.setIfInBounds_toArray, List.set_cons_zero, List.set_cons_succ]
                  refine wpAnyH_take (i := 8) (v := ?_) rfl (by kernel_rfl) (by kernel_rfl) (by kernel_rfl) (fun _ _ _ h => h) (Or.inl ⟨by rfl, ?_⟩) (by assumption) ?_
                  rotate_left
                  · (intro w hSw; (try dsimp only at hSw); go_simp; try with_reducible rfl)
                  try simp only [List.getElem_toArray, List.getElem_cons_zero, List.getElem_cons_succ, Act.put, List.setIfInBounds_toArray, List.set_cons_zero, List.set_cons_succ]
                  refine wpAnyH_ready (rs := [9]) (by kernel_rfl) (by simp) ?_
                  refine AllReadyH.cons rfl (fun K hK => ?_) AllReadyH.nil
                  try simp only [List.getElem_toArray]
                  go_simp
                  (go_at_call 93; refine (HPj.out _).mono ?_; rintro e w97 ⟨rfl, hw97⟩; subst w97)
                  refine hK.out _ _ (by first | exact ⟨x0, x1⟩ | exact ⟨z0, z1⟩ | go_keep) (fun hHeld => ?_)
                  clear hK K
                  try simp only [List.getElem_toArray, List.getElem_cons_zero, List.getElem_cons_succ, Act.put, List.setIfInBounds_toArray, List.set_cons_zero, List.set_cons_succ]
                  refine wpAnyH_take (i := 10) (v := ?_) rfl (by kernel_rfl) (by kernel_rfl) (by kernel_rfl) (fun _ _ _ h => h) (Or.inl ⟨by rfl, ?_⟩) (by assumption) ?_
                  rotate_left
                  · (intro w hSw; (try dsimp only at hSw); go_simp; (try rw [hw1]); try with_reducible rfl)
                  try simp only [List.getElem_toArray, List.getElem_cons_zero, List.getElem_cons_succ, Act.put, List.setIfInBounds_toArray, List.set_cons_zero, List.set_cons_succ]
                  refine wpAnyH_ready (rs := [11]) (by kernel_rfl) (by simp) ?_
                  refine AllReadyH.cons rfl (fun K hK => ?_) AllReadyH.nil
                  try simp only [List.getElem_toArray]
                  go_simp
                  (go_at_call 94; refine (HTk.out _ (by first | exact R4.out | exact R4.out.below (k := w4.heap.size) ((Below.refl _ _).drew) (Nat.le_refl _))).mono ?_; rintro e w5 ⟨rfl, hbd⟩; have hb5 : Below w4.heap.size w4 w5 := (by first | exact hbd | exact ⟨hbd.os, hbd.tape, hbd.output, hbd.size, hbd.block⟩); clear hbd; have X5 := Lib.hid (X4.out.next hb5 X4.out.lt); have H5 := Lib.hid (HBE.out.trans (hb5.mono HBE.out.size)); have z0 := X5.out.out.at0; have z1 := X5.out.out.at1)
                  refine hK.out _ _ (by first | exact ⟨x0, x1⟩ | exact ⟨z0, z1⟩ | go_keep) (fun hHeld => ?_)
                  clear hK K
                  try simp only [List.getElem_toArray, List.getElem_cons_zero, List.getElem_cons_succ, Act.put, List.setIfInBounds_toArray, List.set_cons_zero, List.set_cons_succ]
                  refine wpAnyH_take (i := 12) (v := ?_) rfl (by kernel_rfl) (by kernel_rfl) (by kernel_rfl) (fun _ _ _ h => h) (Or.inl ⟨by rfl, ?_⟩) (by assumption) ?_
                  rotate_left
                  · (intro w hSw; (try dsimp only at hSw); go_simp; try with_reducible rfl)
                  try simp only [List.getElem_toArray, List.getElem_cons_zero, List.getElem_cons_succ, Act.put, List.setIfInBounds_toArray, List.set_cons_zero, List.set_cons_succ]
                  refine wpAnyH_done (by kernel_rfl) ?_ _
                  all_goals
                    go_wp2_with fail
                    go_roundw
                    case rel => exact ⟨j + 1, false, by omega, by go_num, rfl, by rw [HLS.out]; simp, H5.out⟩
                    case measure => simp [intOf]; omega
            · obtain rfl : j = m := by omega
              have HBM := Lib.hid (show b = (tch u k ns && mnm u ns k) by rw [← HLk.out]; exact HBV.out)
              have HQS := Lib.hid (tsoQ_succ u ns k)
              rw [← HBM.out] at HQS
              clear HBM HBV
              have HE4 := Lib.hid (H3.out.trans (HBE.out.mono (by have := H3.out.size; omega)))
              cases b with
              | false =>
                go_wp2_with fail
                go_roundw
                case rel => exact ⟨k + 1, xs, a', c', by omega, by go_num, rfl, by rw [HXS.out, HQS.out]; rfl, A4.out, HE4.out⟩
                case measure => simp [intOf]; omega
              | true =>
                go_wp2_with (at_builtin; refine wpList_app rfl (.tmp 52) (.tmp 54) rfl w1.heap.size _ xs rfl (by exact A4.out.alloc _) _ _ _ [(k : Int)] rfl (src_cell (by rw [World.cell?_alloc_at _ _ _ _ rfl]; rfl)) (by omega) (by simp; omega) ?_; intro a5 c5 w5 hin5 hb5 hg5; have A5 := Lib.hid hin5; have H5 := Lib.hid ((HE4.out.alloc (by have := HE4.out.size; omega) (Obj.cells #[.int .i64 (k : Int)] 3)).trans hb5); clear hin5 hb5 hg5)
                go_roundw
                case rel => exact ⟨k + 1, xs ++ [(k : Int)], a5, c5, by omega, by go_num, by rw [List.length_append]; rfl, by rw [HXS.out, HQS.out]; simp [toI], by rw [List.length_append]; exact A5.out, H5.out⟩
                case measure => simp [intOf]; omega
        · obtain rfl : k = q := by omega
          go_wp2_with fail
          refine (HP.out _).mono ?_
          rintro e w9 ⟨rfl, hw9⟩
          subst w9
          go_wp2_with fail
          refine bodyPost_ret (v := .slice a' xs.length c') (by simp [results, Tryd.results39, go_sem]) rfl ?_
          (try rw [HQA.out]); rw [← HXS.out]
          have hs1 := B1.out.size
          have hb9 := B1.out.trans (HBE.out.mono (by omega))
          rw [← ho] at *
          exact ⟨a', c', rfl, AL.out.mono (by omega), hb9⟩
    · rw [Bool.not_eq_true] at hh
      rw [hh] at HI
      have HQA := Lib.hid (show tsoL n zs t = [] by
        by_cases hin : inB n zs t = true
        · obtain ⟨m, ns, rfl, rfl, hc⟩ := vldB_cls hv
          have ht : setB m t = true := by simp only [inB, Bool.and_eq_true, Int.toNat_natCast] at hin; exact hin.2
          obtain ⟨u, rfl, hu, hu32⟩ := setB_nat hc.pts ht
          rw [hasB_nat] at hh
          rw [tsoL, if_pos hin, Int.toNat_natCast, toNat_toI, tso_none (of_decide_eq_false hh)]
          rfl
        · rw [tsoL, if_neg hin])
      clear hh hv
      go_wp2_with fail
      refine (HI.out _ (H.out.below B1.out (by omega))).mono ?_
      rintro e w9 ⟨rfl, hw9⟩
      subst w9
      go_wp2_with fail
      go_ret
      (try rw [HQA.out])
      exact ⟨none, 0, rfl, Ints.nil _ _, by rw [ho]; exact B1.out⟩
  · rw [Bool.not_eq_true] at hv
    rw [hv]
    have HQA := Lib.hid (show tsoL n zs t = [] by rw [tsoL, if_neg (by rw [inB, hv, Bool.false_and]; simp)])
    clear hv
    go_wp2_with fail
    go_ret
    (try rw [HQA.out])
    exact ⟨none, 0, rfl, Ints.nil _ _, by rw [ho]; exact B1.out⟩

  end Go.Proofs.YthmipnflbiclbaaDoor
