/- ThresholdClass, the program's and the model's. No conditions. -/
import Derived.Deep.RegionLaw
import Derived.Test.YtiocaopabkbgpaaDoorBall
import Derived.Test.YtiocaopabkbgpaaDoorZB
import Derived.Test.YtiocaopabkbgpaaDoorZH
namespace Go.Proofs.YtiocaopabkbgpaaDoor
open Go.RowKit

/-- the sets of the first points -/
def thr (j : Nat) : List Nat := (List.range j).map (fun k => 2 ^ k - 1)
theorem thr_len (j : Nat) : (thr j).length = j := by simp [thr]
theorem thr_succ (j : Nat) : thr (j + 1) = thr j ++ [2 ^ j - 1] := by simp [thr, List.range_succ]
/-- ThresholdClass -/
def thN (n : Int) : Int := if 0 ≤ n ∧ n ≤ 5 then n else 0
def thL (n : Int) : List Int := if 0 ≤ n ∧ n ≤ 5 then toI (thr (n.toNat + 1)) else []
theorem thL_len (n : Int) : (thL n).length ≤ 1048576 := by
  unfold thL
  split
  · rw [toI_length, thr_len]; omega
  · simp

set_option maxRecDepth 100000 in
set_option maxHeartbeats 3200000 in
theorem implThresholdClass (n : Int) (w : World) :
    Calls Tryd.prog 34 #[.int .i64 n] w (RetClass (thN n) (thL n) w) := by
  have B := Lib.hid (show Below w.heap.size w ((w.alloc (Obj.cells #[.int .i64 0, .slice none 0 0] 25)).alloc (Obj.cells #[.int .i64 n, .slice none 0 0] 25)) from ((Below.refl _ _).alloc (Nat.le_refl _) _).alloc (by simp) _)
  have HZ := Lib.hid (show ((w.alloc (Obj.cells #[.int .i64 0, .slice none 0 0] 25)).alloc (Obj.cells #[.int .i64 n, .slice none 0 0] 25)).heap.size = w.heap.size + 2 by simp)
  have Y := Lib.hid (show Bx 0 (.slice none 0 0) w.heap.size ((w.alloc (Obj.cells #[.int .i64 0, .slice none 0 0] 25)).alloc (Obj.cells #[.int .i64 n, .slice none 0 0] 25)) from (Bx.new 0 (.slice none 0 0) w).alloc _)
  have X := Lib.hid (show Bx n (.slice none 0 0) (w.heap.size + 1) ((w.alloc (Obj.cells #[.int .i64 0, .slice none 0 0] 25)).alloc (Obj.cells #[.int .i64 n, .slice none 0 0] 25)) from heap_alloc_at (by simp))
  have HI := Lib.hid (fun w => implValid n (.slice none 0 0) [] w (Rd.nil w))
  by_cases hn : 0 ≤ n ∧ n ≤ 5
  · obtain ⟨m, rfl⟩ := Int.eq_ofNat_of_zero_le hn.1
    have hm : m ≤ 5 := by omega
    have hv : vldB (m : Int) [] = true := vldB_all hm (fun j hj => by simp at hj)
    rw [hv] at HI
    rw [show thN (m : Int) = m by rw [thN, if_pos hn], show thL (m : Int) = toI (thr (m + 1)) by rw [thL, if_pos hn, Int.toNat_natCast]]
    clear hv hn
    go_enter Tryd.func34, Tryd.ntmps34
    go_wp2_with fail
    generalize ((w.alloc (Obj.cells #[.int .i64 0, .slice none 0 0] 25)).alloc (Obj.cells #[.int .i64 (m : Int), .slice none 0 0] 25)) = w0 at *
    have hz0 := HZ.out
    refine (HI.out _).mono ?_
    rintro e w1 ⟨rfl, hb⟩
    have hz1 := hb.size
    replace Y := Lib.hid (Y.out.next hb (by omega))
    replace X := Lib.hid (X.out.next hb (by omega))
    replace B := Lib.hid (B.out.trans (hb.mono (by omega)))
    clear hb
    go_wp2_with fail
    go_loopw [13] (fun i wr => ∃ (j : Nat) (a' : Option Addr) (c' : Nat), j ≤ m + 1 ∧ i = .int .i64 j ∧ Bx (m : Int) (.slice a' j c') (w.heap.size + 1) wr ∧ Bx 0 (.slice none 0 0) w.heap.size wr ∧ Ints (w.heap.size + 2) wr (.slice a' j c') (toI (thr j)) ∧ Below (w.heap.size + 1) w1 wr ∧ w.heap.size + 1 < wr.heap.size) (fun i _ => m + 1 - (intOf i).toNat)
    case atStart => exact ⟨0, none, 0, by omega, rfl, X.out, Y.out, Ints.nil _ _, Below.refl _ _, by omega⟩
    case round =>
      obtain ⟨j, a', c', hj, rfl, hx, hy, hin, hbe, hsz⟩ := hrel
      replace X := Lib.hid hx
      replace Y := Lib.hid hy
      have IN := Lib.hid hin
      have HBE := Lib.hid hbe
      clear hx hy hin hbe
      by_cases hlt : j < m + 1
      · have hltI : (j : Int) < (m : Int) + 1 := by omega
        have hw := wrap_pow j (by omega)
        have HW := Lib.hid hw.1
        have hp0 := Nat.two_pow_pos j
        have hp32 := pow_le_32 (show j ≤ 5 by omega)
        have HT := Lib.hid (thr_succ j)
        have HAl := Lib.hid (thr_len j)
        have HAi := Lib.hid ((toI_length (thr j)).trans HAl.out)
        have HRw := Lib.hid (show IntKind.i64.wrap (IntKind.i64.wrap ((2 : Int) ^ j) - 1) = ((2 ^ j - 1 : Nat) : Int) by
          have h2 : ((2 ^ j : Nat) : Int) = (2 : Int) ^ j := by simp
          rw [show IntKind.i64.wrap ((2 : Int) ^ j) = (2 : Int) ^ j from IntWalk.i64_in _ (by omega), IntKind.wrap_i64]
          omega)
        generalize thr j = A at *
        clear hw
        have x1 := X.out.out.at1
        go_wp2_with fail
        have HRW := Lib.hid (show Ints (w.heap.size + 2) wr.drew (.slice a' j c') (toI A) from IN.out)
        have HXW := Lib.hid (show Bx (m : Int) (.slice a' j c') (w.heap.size + 1) wr.drew from X.out)
        have HYW := Lib.hid (show Bx 0 (.slice none 0 0) w.heap.size wr.drew from Y.out)
        have HBW := Lib.hid (show Below (w.heap.size + 1) w1 wr.drew from HBE.out.drew)
        have hszW : w.heap.size + 1 < wr.drew.heap.size := hsz
        go_region_law (first
          | (refine step_app rfl (.tmp 17) (.tmp 21) rfl (w.heap.size + 2) _ (toI A) rfl (by first | exact HRW.out | exact HRW.out.alloc _) _ _ _ [_] rfl (src_cell (by first | (rw [World.cell?_alloc_at _ _ _ _ (by simp)]; rfl) | (rw [cell_drew, World.cell?_alloc_at _ _ _ _ (by simp)]; rfl))) (by rw [HAi.out]; omega) (by first | (simp; omega) | omega) ?_; intro a9 c9 w9 hin9 hb9 hg9; have I9 := Lib.hid hin9; have G9 := Lib.hid (show wr.drew.grownBy w9 (Value.slice a' j c').ownBlock from by first | exact grownBy_trans (World.grownBy_alloc _ _ _) hg9 | exact hg9); have hr9 := fun r hr => (HRW.out.lt r hr).1; have B9 := Lib.hid (HBW.out.grown G9.out (by omega) (fun r hr => by have := hr9 r hr; omega)); clear hin9 hb9 hg9 hr9; have hz9 := G9.out.size; have X9 := Lib.hid (HXW.out.kept G9.out (HXW.out.not_row HRW.out)); have Y9 := Lib.hid (HYW.out.kept G9.out (HYW.out.not_row HRW.out)); have f1 := X9.out.out.at1; have g1 := X9.out.out.free1))
        all_goals
          rw [HAi.out, HRw.out] at I9
          go_wp2_with fail
          go_roundw
          case rel => exact ⟨j + 1, a9, c9, by omega, by go_num, by rw [HAi.out]; exact X9.out.set _, Y9.out.other (by omega) _, by rw [HT.out, toI_append]; exact I9.out.bx X9.out 1 _, B9.out.setCell (by simp) _, by simp; omega⟩
          case measure => simp [intOf]; omega
      · obtain rfl : j = m + 1 := by omega
        have HAi := Lib.hid ((toI_length (thr (m + 1))).trans (thr_len (m + 1)))
        have x0 := X.out.out.at0
        have x1 := X.out.out.at1
        have r0 := Y.out.out.at0
        have r1 := Y.out.out.at1
        have q0 := Y.out.out.free0
        have q1 := Y.out.out.free1
        go_wp2_with fail
        refine bodyPost_ret (v := .agg #[.int .i64 (m : Int), .slice a' (m + 1) c']) (by simp [results, Tryd.results34, go_sem, r0, r1]) rfl ?_
        refine ⟨a', c', by rw [HAi.out], ?_, ?_⟩
        · rw [HAi.out]
          refine Ints.mono (B := w.heap.size + 2) ?_ (by omega)
          repeat (refine Ints.setCell_below ?_ (by simp) _)
          exact IN.out
        · have hb0 := B.out.trans (HBE.out.mono (show w.heap.size ≤ w.heap.size + 1 by omega))
          clear x0 x1 r0 r1 q0 q1
          go_grown
  · have hv : vldB n [] = false := by
      rcases Decidable.not_and_iff_or_not.1 hn with h | h
      · exact vldB_low (by omega)
      · exact vldB_high (by omega)
    rw [hv] at HI
    rw [show thN n = 0 by rw [thN, if_neg hn], show thL n = [] by rw [thL, if_neg hn]]
    clear hv hn
    go_enter Tryd.func34, Tryd.ntmps34
    go_wp2_with fail
    generalize ((w.alloc (Obj.cells #[.int .i64 0, .slice none 0 0] 25)).alloc (Obj.cells #[.int .i64 n, .slice none 0 0] 25)) = w0 at *
    have hz0 := HZ.out
    refine (HI.out _).mono ?_
    rintro e w1 ⟨rfl, hb⟩
    replace Y := Lib.hid (Y.out.next hb (by omega))
    replace B := Lib.hid (B.out.trans (hb.mono (by omega)))
    clear hb
    have r0 := Y.out.out.at0
    have r1 := Y.out.out.at1
    have q0 := Y.out.out.free0
    have q1 := Y.out.out.free1
    go_wp2_with fail
    refine bodyPost_ret (v := .agg #[.int .i64 0, .slice none 0 0]) (by simp [results, Tryd.results34, go_sem, r0, r1]) rfl ?_
    refine ⟨none, 0, rfl, Ints.nil _ _, ?_⟩
    have hb0 := B.out
    clear r0 r1 q0 q1
    go_grown

set_option maxRecDepth 100000 in
set_option maxHeartbeats 3200000 in
theorem specThresholdClass (n : Int) (w : World) :
    Calls Tryd.prog 35 #[.int .i64 n] w (RetClass (thN n) (thL n) w) := by
  by_cases hn : 0 ≤ n ∧ n ≤ 5
  · obtain ⟨m, rfl⟩ := Int.eq_ofNat_of_zero_le hn.1
    have hm : m ≤ 5 := by omega
    have B := Lib.hid (show Below w.heap.size w (((w.alloc (Obj.cells #[.int .i64 0, .slice none 0 0] 25)).alloc (Obj.cells #[] 3)).alloc (Obj.cells #[.int .i64 (m : Int), .slice (some ⟨w.heap.size + 1, 0, none⟩) 0 0] 25)) from (((Below.refl _ _).alloc (Nat.le_refl _) _).alloc (by simp) _).alloc (by simp; omega) _)
    have HZ := Lib.hid (show (((w.alloc (Obj.cells #[.int .i64 0, .slice none 0 0] 25)).alloc (Obj.cells #[] 3)).alloc (Obj.cells #[.int .i64 (m : Int), .slice (some ⟨w.heap.size + 1, 0, none⟩) 0 0] 25)).heap.size = w.heap.size + 3 by simp)
    have Y := Lib.hid (show Bx 0 (.slice none 0 0) w.heap.size (((w.alloc (Obj.cells #[.int .i64 0, .slice none 0 0] 25)).alloc (Obj.cells #[] 3)).alloc (Obj.cells #[.int .i64 (m : Int), .slice (some ⟨w.heap.size + 1, 0, none⟩) 0 0] 25)) from ((Bx.new 0 (.slice none 0 0) w).alloc _).alloc _)
    have X := Lib.hid (show Bx (m : Int) (.slice (some ⟨w.heap.size + 1, 0, none⟩) 0 0) (w.heap.size + 2) (((w.alloc (Obj.cells #[.int .i64 0, .slice none 0 0] 25)).alloc (Obj.cells #[] 3)).alloc (Obj.cells #[.int .i64 (m : Int), .slice (some ⟨w.heap.size + 1, 0, none⟩) 0 0] 25)) from heap_alloc_at (by simp))
    have IN0 := Lib.hid (show Ints (w.heap.size + 1) (((w.alloc (Obj.cells #[.int .i64 0, .slice none 0 0] 25)).alloc (Obj.cells #[] 3)).alloc (Obj.cells #[.int .i64 (m : Int), .slice (some ⟨w.heap.size + 1, 0, none⟩) 0 0] 25)) (.slice (some ⟨w.heap.size + 1, 0, none⟩) 0 0) [] from (Ints.lit' (by simp) (by simp)).alloc _)
    have HI := Lib.hid (fun w => inRange_yes m hm w)
    rw [show thN (m : Int) = m by rw [thN, if_pos hn], show thL (m : Int) = toI (thr (m + 1)) by rw [thL, if_pos hn, Int.toNat_natCast]]
    clear hn
    go_enter Tryd.func35, Tryd.ntmps35
    go_wp2_with fail
    refine (HI.out _).mono ?_
    rintro e w9 ⟨rfl, hw9⟩
    subst w9
    go_wp2_with fail
    generalize (((w.alloc (Obj.cells #[.int .i64 0, .slice none 0 0] 25)).alloc (Obj.cells #[] 3)).alloc (Obj.cells #[.int .i64 (m : Int), .slice (some ⟨w.heap.size + 1, 0, none⟩) 0 0] 25)) = w1 at *
    have hz1 := HZ.out
    go_loopw [4] (fun i wr => ∃ (j : Nat) (a' : Option Addr) (c' : Nat), j ≤ m + 1 ∧ i = .int .i64 j ∧ Bx (m : Int) (.slice a' j c') (w.heap.size + 2) wr ∧ Bx 0 (.slice none 0 0) w.heap.size wr ∧ Ints (w.heap.size + 1) wr (.slice a' j c') (toI (thr j)) ∧ Below (w.heap.size + 1) w1 wr ∧ w.heap.size + 2 < wr.heap.size) (fun i _ => m + 1 - (intOf i).toNat)
    case atStart => exact ⟨0, _, _, by omega, rfl, X.out, Y.out, IN0.out, Below.refl _ _, by omega⟩
    case round =>
      obtain ⟨j, a', c', hj, rfl, hx, hy, hin, hbe, hsz⟩ := hrel
      replace X := Lib.hid hx
      replace Y := Lib.hid hy
      have IN := Lib.hid hin
      have HBE := Lib.hid hbe
      clear hx hy hin hbe
      by_cases hlt : j < m + 1
      · have hltI : (j : Int) ≤ (m : Int) := by omega
        have hp0 := Nat.two_pow_pos j
        have hp32 := pow_le_32 (show j ≤ 5 by omega)
        have HP := Lib.hid (fun w => (specPower (j : Int) w (by omega) (by omega)).mono fun e w' h => And.intro h.1 h.2.symm)
        have HT := Lib.hid (thr_succ j)
        have HAi := Lib.hid ((toI_length (thr j)).trans (thr_len j))
        have hqI : (2 : Int) ^ j = ((2 ^ j : Nat) : Int) := by simp
        rw [Int.toNat_natCast, hqI] at HP
        have HRw := Lib.hid (show IntKind.i64.wrap (((2 ^ j : Nat) : Int) - 1) = ((2 ^ j - 1 : Nat) : Int) by
          rw [IntKind.wrap_i64]
          omega)
        generalize thr j = A at *
        generalize 2 ^ j - 1 = r at *
        generalize 2 ^ j = q at *
        clear hqI
        have x1 := X.out.out.at1
        go_wp2_with fail
        have HRW := Lib.hid (show Ints (w.heap.size + 1) wr.drew (.slice a' j c') (toI A) from IN.out)
        have HXW := Lib.hid (show Bx (m : Int) (.slice a' j c') (w.heap.size + 2) wr.drew from X.out)
        have HYW := Lib.hid (show Bx 0 (.slice none 0 0) w.heap.size wr.drew from Y.out)
        have HBW := Lib.hid (show Below (w.heap.size + 1) w1 wr.drew from HBE.out.drew)
        have hszW : w.heap.size + 2 < wr.drew.heap.size := hsz
        go_region_law (first
          | (go_simp; go_at_call 82; refine (HP.out _).mono ?_; rintro e w9 ⟨rfl, hw9⟩; subst w9)
          | (refine step_app rfl (.tmp 18) (.tmp 22) rfl (w.heap.size + 1) _ (toI A) rfl (by first | exact HRW.out | exact HRW.out.alloc _) _ _ _ [_] rfl (src_cell (by first | (rw [World.cell?_alloc_at _ _ _ _ (by simp)]; rfl) | (rw [cell_drew, World.cell?_alloc_at _ _ _ _ (by simp)]; rfl))) (by rw [HAi.out]; omega) (by first | (simp; omega) | omega) ?_; intro a9 c9 w9 hin9 hb9 hg9; have I9 := Lib.hid hin9; have G9 := Lib.hid (show wr.drew.grownBy w9 (Value.slice a' j c').ownBlock from by first | exact grownBy_trans (World.grownBy_alloc _ _ _) hg9 | exact hg9); have hr9 := fun r hr => (HRW.out.lt r hr).1; have B9 := Lib.hid (HBW.out.grown G9.out (by omega) (fun r hr => by have := hr9 r hr; omega)); clear hin9 hb9 hg9 hr9; have hz9 := G9.out.size; have X9 := Lib.hid (HXW.out.kept G9.out (HXW.out.not_row HRW.out)); have Y9 := Lib.hid (HYW.out.kept G9.out (HYW.out.not_row HRW.out)); have f1 := X9.out.out.at1; have g1 := X9.out.out.free1))
        all_goals
          rw [HAi.out, HRw.out] at I9
          go_wp2_with fail
          go_roundw
          case rel => exact ⟨j + 1, a9, c9, by omega, by go_num, by rw [HAi.out]; exact X9.out.set _, Y9.out.other (by omega) _, by rw [HT.out, toI_append]; exact I9.out.bx X9.out 1 _, B9.out.setCell (by simp) _, by simp; omega⟩
          case measure => simp [intOf]; omega
      · obtain rfl : j = m + 1 := by omega
        have HAi := Lib.hid ((toI_length (thr (m + 1))).trans (thr_len (m + 1)))
        have x0 := X.out.out.at0
        have x1 := X.out.out.at1
        have r0 := Y.out.out.at0
        have r1 := Y.out.out.at1
        have q0 := Y.out.out.free0
        have q1 := Y.out.out.free1
        go_wp2_with fail
        refine bodyPost_ret (v := .agg #[.int .i64 (m : Int), .slice a' (m + 1) c']) (by simp [results, Tryd.results35, go_sem, r0, r1]) rfl ?_
        refine ⟨a', c', by rw [HAi.out], ?_, ?_⟩
        · rw [HAi.out]
          refine Ints.mono (B := w.heap.size + 1) ?_ (by omega)
          repeat (refine Ints.setCell_below ?_ (by simp) _)
          exact IN.out
        · have hb0 := B.out.trans (HBE.out.mono (show w.heap.size ≤ w.heap.size + 1 by omega))
          clear x0 x1 r0 r1 q0 q1
          go_grown
  · have HI := Lib.hid (fun w => inRange_no n (by omega) w)
    rw [show thN n = 0 by rw [thN, if_neg hn], show thL n = [] by rw [thL, if_neg hn]]
    have Y := Lib.hid (Bx.new 0 (.slice none 0 0) w)
    clear hn
    go_enter Tryd.func35, Tryd.ntmps35
    go_wp2_with fail
    refine (HI.out _).mono ?_
    rintro e w9 ⟨rfl, hw9⟩
    subst w9
    have r0 := Y.out.out.at0
    have r1 := Y.out.out.at1
    have q0 := Y.out.out.free0
    have q1 := Y.out.out.free1
    go_wp2_with fail
    refine bodyPost_ret (v := .agg #[.int .i64 0, .slice none 0 0]) (by simp [results, Tryd.results35, go_sem, r0, r1]) rfl ?_
    refine ⟨none, 0, rfl, Ints.nil _ _, ?_⟩
    clear r0 r1 q0 q1
    go_grown

end Go.Proofs.YtiocaopabkbgpaaDoor
