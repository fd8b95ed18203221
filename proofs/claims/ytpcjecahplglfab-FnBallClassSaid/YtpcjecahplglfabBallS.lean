/- BallClass, the model's. No conditions. -/
import Derived.Test.YtpcjecahplglfabBall
import Derived.Test.YtpcjecahplglfabZB
import Derived.Test.YtpcjecahplglfabZH
namespace Go.Proofs.Ytpcjecahplglfab
open Go.RowKit

set_option maxRecDepth 100000 in
set_option maxHeartbeats 3200000 in
theorem specBallClass (n s k : Int) (w : World) :
    Calls Try.prog 31 #[.int .i64 n, .int .i64 s, .int .i64 k] w (RetCB (blN n s) (blL n s k) (inB n [] s) w) := by
  have HB0 := Lib.hid (show Below w.heap.size w (((w.alloc (Obj.cells #[.int .i64 0, .slice none 0 0] 26)).alloc (Obj.cells #[] 3)).alloc (Obj.cells #[.int .i64 n, .slice (some ⟨w.heap.size + 1, 0, none⟩) 0 0] 26)) from (((Below.refl _ _).alloc (Nat.le_refl _) _).alloc (by simp) _).alloc (by simp; omega) _)
  have HZ := Lib.hid (show (((w.alloc (Obj.cells #[.int .i64 0, .slice none 0 0] 26)).alloc (Obj.cells #[] 3)).alloc (Obj.cells #[.int .i64 n, .slice (some ⟨w.heap.size + 1, 0, none⟩) 0 0] 26)).heap.size = w.heap.size + 3 by simp)
  have OR := Lib.hid (show Out 0 (.slice none 0 0) w.heap.size (((w.alloc (Obj.cells #[.int .i64 0, .slice none 0 0] 26)).alloc (Obj.cells #[] 3)).alloc (Obj.cells #[.int .i64 n, .slice (some ⟨w.heap.size + 1, 0, none⟩) 0 0] 26)) from ⟨by simp [go_sem], by simp [go_sem], by simp [go_sem], by simp [go_sem]⟩)
  have BX := Lib.hid (show Bx n (.slice (some ⟨w.heap.size + 1, 0, none⟩) 0 0) (w.heap.size + 2) (((w.alloc (Obj.cells #[.int .i64 0, .slice none 0 0] 26)).alloc (Obj.cells #[] 3)).alloc (Obj.cells #[.int .i64 n, .slice (some ⟨w.heap.size + 1, 0, none⟩) 0 0] 26)) from heap_alloc_at (by simp))
  have IN := Lib.hid (show Ints (w.heap.size + 1) (((w.alloc (Obj.cells #[.int .i64 0, .slice none 0 0] 26)).alloc (Obj.cells #[] 3)).alloc (Obj.cells #[.int .i64 n, .slice (some ⟨w.heap.size + 1, 0, none⟩) 0 0] 26)) (.slice (some ⟨w.heap.size + 1, 0, none⟩) 0 0) [] from (Ints.lit' (by simp) (by simp)).alloc _)
  by_cases hn : 0 ≤ n ∧ n ≤ 5
  · obtain ⟨m, rfl⟩ := Int.eq_ofNat_of_zero_le hn.1
    have hm : m ≤ 5 := by omega
    have hp32 := pow_le_32 hm
    have hp0 := Nat.two_pow_pos m
    have hv : vldB (m : Int) [] = true := vldB_all hm (fun j hj => by simp at hj)
    have HIn := Lib.hid (show inB (m : Int) [] s = setB m s by rw [inB, hv, Int.toNat_natCast]; rfl)
    have HR := Lib.hid (fun w => inRange_yes m hm w)
    have HS := Lib.hid (fun v w => specValidSet m hm v s w)
    rw [HIn.out]
    by_cases hs : setB m s = true
    · obtain ⟨t, rfl, ht, ht32⟩ := setB_nat hm hs
      have hi : inB (m : Int) [] (t : Int) = true := by rw [HIn.out, hs]
      rw [show blN (m : Int) (t : Int) = m by rw [blN, if_pos hi], show blL (m : Int) (t : Int) k = toI (ball m t k) by rw [blL, if_pos hi, Int.toNat_natCast, Int.toNat_natCast], hs]
      rw [hs] at HS
      have HPw := Lib.hid (fun w0 => (specPower (m : Int) w0 (by omega) (by omega)).mono fun e w' h => And.intro h.1 h.2.symm)
      obtain ⟨q, hq⟩ : ∃ q : Nat, q = 2 ^ m := ⟨_, rfl⟩
      have hqI : (2 : Int) ^ m = (q : Int) := by rw [hq]; simp
      rw [Int.toNat_natCast, hqI] at HPw
      obtain ⟨K, hK⟩ : ∃ K, K = (fun x => decide (dis t x ≤ k)) := ⟨_, rfl⟩
      have HE := Lib.hid (show (List.range q).filter K = ball m t k by rw [hK, hq]; rfl)
      have HKx := Lib.hid (fun x => show K x = decide (((pc (x ^^^ t) : Nat) : Int) ≤ k) by rw [hK]; rfl)
      rw [← HE.out]
      rw [← hq] at hp32 hp0
      clear hv hs hi hq hqI hK hn
      go_enter Try.func31, Try.ntmps31
      go_wp2_with fail
      generalize (((w.alloc (Obj.cells #[.int .i64 0, .slice none 0 0] 26)).alloc (Obj.cells #[] 3)).alloc (Obj.cells #[.int .i64 (m : Int), .slice (some ⟨w.heap.size + 1, 0, none⟩) 0 0] 26)) = w0 at *
      have hz0 := HZ.out
      have x0 := BX.out.out.at0
      have x1 := BX.out.out.at1
      refine (HR.out _).mono ?_
      rintro e w1 ⟨rfl, hw1⟩
      subst w1
      go_wp2_with fail
      refine (HS.out _ _).mono ?_
      rintro e w1 ⟨rfl, hb⟩
      have hz1 := hb.size
      have O1 := Lib.hid (OR.out.next hb (by omega))
      have X1 := Lib.hid (BX.out.next hb (by omega))
      have I1 := Lib.hid (IN.out.below hb (Nat.le_refl _))
      have HB1 := Lib.hid (HB0.out.trans (hb.mono (by omega)))
      clear hb x0 x1
      go_wp2_with fail
      go_loopw [9] (fun i wr => ∃ (j : Nat) (a' : Option Addr) (c' : Nat), j ≤ q ∧ i = .int .i64 j ∧ Bx (m : Int) (.slice a' ((List.range j).filter K).length c') (w.heap.size + 2) wr ∧ Ints (w.heap.size + 1) wr (.slice a' ((List.range j).filter K).length c') (toI ((List.range j).filter K)) ∧ Below (w.heap.size + 1) w1 wr ∧ w.heap.size + 2 < wr.heap.size) (fun i _ => q - (intOf i).toNat)
      case atStart => exact ⟨0, _, _, by omega, rfl, X1.out, I1.out, Below.refl _ _, by omega⟩
      case round =>
        obtain ⟨j, a', c', hj, rfl, hbx, hin, hbe, hsz⟩ := hrel
        have BX2 := Lib.hid hbx
        have IN2 := Lib.hid hin
        have HBE := Lib.hid hbe
        have O2 := Lib.hid (O1.out.next hbe (by omega))
        clear hbx hin hbe
        by_cases hlt : j < q
        · have hltI : (j : Int) < (q : Int) := by omega
          have hfl := filt_le K j
          have h32 : j ^^^ t < 32 := Nat.xor_lt_two_pow (n := 5) (by omega) ht32
          have HF := Lib.hid (fun w => specFlip j t (by omega) (by omega) w)
          have HSz := Lib.hid (fun w => (specSize (j ^^^ t) h32 w).mono fun e w' h => And.intro h.1 h.2.symm)
          have HKj := Lib.hid (HKx.out j)
          generalize j ^^^ t = x at *
          generalize pc x = px at *
          by_cases hp : K j = true
          · have HFl := Lib.hid (filt_yes hp)
            have hd : decide ((px : Int) ≤ k) = true := by rw [← HKj.out]; exact hp
            have HAl := Lib.hid (toI_length ((List.range j).filter K))
            clear hp
            generalize (List.range j).filter K = A at *
            go_wp2_with fail
            refine (HPw.out _).mono ?_
            rintro e w5 ⟨rfl, hw5⟩
            subst w5
            go_wp2_with fail
            refine (HF.out _).mono ?_
            rintro e w5 ⟨rfl, hw5⟩
            subst w5
            go_wp2_with fail
            refine (HSz.out _).mono ?_
            rintro e w5 ⟨rfl, hw5⟩
            subst w5
            have e1 := BX2.out.out.at1
            go_wp2_with (at_builtin; refine wpList_app rfl (.tmp 36) (.tmp 38) rfl (w.heap.size + 1) _ (toI A) rfl (by exact IN2.out.alloc _) _ _ _ [(j : Int)] rfl (src_cell (by rw [World.cell?_alloc_at _ _ _ _ rfl]; rfl)) (by rw [HAl.out]; omega) (by simp; omega) ?_; intro a1 c1 w3 hin3 hb3 hg3; have X3 := Lib.hid (((BX2.out.alloc _).kept hg3 (BX2.out.not_row IN2.out))); have I3 := Lib.hid hin3; have B3 := Lib.hid (HBE.out.trans (Below.trans ((Below.refl _ _).alloc (by omega) _) hb3)); have hz3 := X3.out.lt; clear hin3 hb3 hg3; have f1 := X3.out.out.at1; have g1 := X3.out.out.free1)
            rw [HAl.out] at I3
            go_roundw
            case rel => exact ⟨j + 1, a1, c1, by omega, by go_num, by rw [HFl.out, HAl.out, List.length_append]; exact X3.out.set _, by rw [HFl.out, HAl.out, List.length_append, toI_append]; exact I3.out.bx X3.out 1 _, B3.out.setCell (by simp) _, by simp; omega⟩
            case measure => simp [intOf]; omega
          · rw [Bool.not_eq_true] at hp
            have HFl := Lib.hid (filt_no hp)
            have hd : decide ((px : Int) ≤ k) = false := by rw [← HKj.out]; exact hp
            clear hp
            generalize (List.range j).filter K = A at *
            go_wp2_with fail
            refine (HPw.out _).mono ?_
            rintro e w5 ⟨rfl, hw5⟩
            subst w5
            go_wp2_with fail
            refine (HF.out _).mono ?_
            rintro e w5 ⟨rfl, hw5⟩
            subst w5
            go_wp2_with fail
            refine (HSz.out _).mono ?_
            rintro e w5 ⟨rfl, hw5⟩
            subst w5
            go_wp2_with fail
            go_roundw
            case rel => exact ⟨j + 1, a', c', by omega, by go_num, by rw [HFl.out]; exact BX2.out, by rw [HFl.out]; exact IN2.out, HBE.out, hsz⟩
            case measure => simp [intOf]; omega
        · obtain rfl : j = q := by omega
          have HAl := Lib.hid (toI_length ((List.range j).filter K))
          generalize (List.range j).filter K = A at *
          go_wp2_with fail
          refine (HPw.out _).mono ?_
          rintro e w5 ⟨rfl, hw5⟩
          subst w5
          have x0 := BX2.out.out.at0
          have x1 := BX2.out.out.at1
          have r0 := O2.out.at0
          have r1 := O2.out.at1
          have q0 := O2.out.free0
          have q1 := O2.out.free1
          go_wp2_with fail
          refine bodyPost_ret (v := .tuple #[.agg #[.int .i64 (m : Int), .slice a' A.length c'], .bool true]) (by simp [results, Try.results31, go_sem, r0, r1]) rfl ?_
          refine ⟨a', c', by rw [HAl.out], ?_, ?_⟩
          · rw [HAl.out]
            refine Ints.mono (B := w.heap.size + 1) ?_ (by omega)
            repeat (refine Ints.setCell_below ?_ (by simp) _)
            exact IN2.out
          · have hb0 := HB1.out.trans (HBE.out.mono (show w.heap.size ≤ w.heap.size + 1 by omega))
            clear x0 x1 r0 r1 q0 q1
            go_grown
    · rw [Bool.not_eq_true] at hs
      have hi : inB (m : Int) [] s = false := by rw [HIn.out, hs]
      rw [blN_no hi, blL_no hi, hs]
      rw [hs] at HS
      clear hs hi hv hn
      go_enter Try.func31, Try.ntmps31
      go_wp2_with fail
      generalize (((w.alloc (Obj.cells #[.int .i64 0, .slice none 0 0] 26)).alloc (Obj.cells #[] 3)).alloc (Obj.cells #[.int .i64 (m : Int), .slice (some ⟨w.heap.size + 1, 0, none⟩) 0 0] 26)) = w0 at *
      have hz0 := HZ.out
      have x0 := BX.out.out.at0
      have x1 := BX.out.out.at1
      refine (HR.out _).mono ?_
      rintro e w1 ⟨rfl, hw1⟩
      subst w1
      go_wp2_with fail
      refine (HS.out _ _).mono ?_
      rintro e w1 ⟨rfl, hb⟩
      replace OR := Lib.hid (OR.out.next hb (by omega))
      replace HB0 := Lib.hid (HB0.out.trans (hb.mono (by omega)))
      clear hb x0 x1
      have r0 := OR.out.at0
      have r1 := OR.out.at1
      have q0 := OR.out.free0
      have q1 := OR.out.free1
      go_wp2_with fail
      refine bodyPost_ret (v := .tuple #[.agg #[.int .i64 0, .slice none 0 0], .bool false]) (by simp [results, Try.results31, go_sem, r0, r1]) rfl ?_
      refine ⟨none, 0, rfl, Ints.nil _ _, ?_⟩
      have hb0 := HB0.out
      clear r0 r1 q0 q1
      go_grown
  · have hv : vldB n [] = false := by
      rcases Decidable.not_and_iff_or_not.1 hn with h | h
      · exact vldB_low (by omega)
      · exact vldB_high (by omega)
    have hi : inB n [] s = false := by rw [inB, hv]; rfl
    have HR := Lib.hid (fun w => inRange_no n (by omega) w)
    rw [blN_no hi, blL_no hi, hi]
    clear hv hi hn
    go_enter Try.func31, Try.ntmps31
    go_wp2_with fail
    generalize (((w.alloc (Obj.cells #[.int .i64 0, .slice none 0 0] 26)).alloc (Obj.cells #[] 3)).alloc (Obj.cells #[.int .i64 n, .slice (some ⟨w.heap.size + 1, 0, none⟩) 0 0] 26)) = w0 at *
    have hz0 := HZ.out
    refine (HR.out _).mono ?_
    rintro e w1 ⟨rfl, hw1⟩
    subst w1
    have r0 := OR.out.at0
    have r1 := OR.out.at1
    have q0 := OR.out.free0
    have q1 := OR.out.free1
    go_wp2_with fail
    refine bodyPost_ret (v := .tuple #[.agg #[.int .i64 0, .slice none 0 0], .bool false]) (by simp [results, Try.results31, go_sem, r0, r1]) rfl ?_
    refine ⟨none, 0, rfl, Ints.nil _ _, ?_⟩
    have hb0 := HB0.out
    clear r0 r1 q0 q1
    go_grown

end Go.Proofs.Ytpcjecahplglfab
