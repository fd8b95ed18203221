/- FnBallClass's walk: balls are maximum classes. Conditions: the code is a slice of bytes. -/
import Derived.Test.YtpcjecahplglfabBall
import Derived.Test.YtpcjecahplglfabBallM
import Derived.Test.YtpcjecahplglfabBallS
import Derived.Test.YtpcjecahplglfabCover
import Derived.Test.YtpcjecahplglfabLawHc
import Derived.Test.YtpcjecahplglfabMaxi
import Derived.Test.YtpcjecahplglfabZC
import Derived.Test.YtpcjecahplglfabZJ
import Derived.Test.YtpcjecahplglfabZK
namespace Go.Proofs.Ytpcjecahplglfab
open Go.RowKit

theorem eqB_self (xs : List Int) : eqB xs xs = true := eqB_of rfl (fun _ _ => rfl)

set_option maxHeartbeats 6400000 in
set_option maxRecDepth 100000 in
theorem walkFnBallClass (a : Option Addr) (b off n cap : Nat) (w : World) (hc : n ≤ cap) (hcap : cap ≤ maxLen) (h : Byt w a b off n) :
    Calls Try.prog 9 #[.slice a n cap] w fun e w' => e = .returned (.bool true) ∧ Below w.heap.size w w' := by
  by_cases hn : n ≤ 1048576
  · have HD := Lib.hid (dDrawBallClass a b off n cap w hc hn hcap h)
    clear h
    go_enter Try.func9, Try.ntmps9
    go_wp2_with fail
    refine HD.out.mono ?_
    rintro e w2 ⟨i, j, l, hi, hj, hl, rfl, hb⟩
    have B := Lib.hid hb
    have hOK := ball_all ⟨i, hi⟩ ⟨j, hj⟩ ⟨l, hl⟩
    obtain ⟨bn0, bn1, bk0, bk1⟩ := ball_bd ⟨i, hi⟩ ⟨l, hl⟩
    dsimp only at hOK bn0 bn1 bk0 bk1
    generalize ballNs.getD i 0 = N at *
    generalize ballSs.getD j 0 = S at *
    generalize ballKs.getD l 0 = k at *
    clear hb HD hi hj hl
    have HI := Lib.hid (fun w => implBallClass N S k w)
    have HS := Lib.hid (fun w => specBallClass N S k w)
    by_cases hv : inB N [] S = true
    · have hm0 : 0 ≤ N ∧ N ≤ 5 := by simp only [inB, Bool.and_eq_true] at hv; have := hv.1; simp only [vldB, decide_eq_true_eq] at this; omega
      obtain ⟨m, rfl⟩ := Int.eq_ofNat_of_zero_le hm0.1
      have hm : m ≤ 5 := by omega
      have eN : blN (m : Int) S = m := by rw [blN, if_pos hv]
      have eL : blL (m : Int) S k = toI (ball m S.toNat k) := by rw [blL, if_pos hv, Int.toNat_natCast]
      rw [eN, eL, hv] at HI HS
      by_cases hk : k < 0
      · have hk1 : decide (k < 0) = true := decide_eq_true hk
        rw [ball_neg hk] at HI HS
        have HZ0 := Lib.hid (show (toI []).length = 0 from rfl)
        clear hv hOK eN eL
        generalize toI [] = RL at *
        go_wp2_with fail
        refine (HI.out _).mono ?_
        rintro e w3 ⟨a3, c3, rfl, hin3, hb3⟩
        have hz3 := hb3.size
        replace B := Lib.hid (B.out.trans (hb3.mono B.out.size))
        have IR := Lib.hid (hin3.mono (Nat.zero_le _))
        clear hin3 hb3
        have Z := Lib.hid (Bx.new (m : Int) (.slice a3 RL.length c3) w3)
        replace IR := Lib.hid (IR.out.alloc (Obj.cells #[.int .i64 (m : Int), .slice a3 RL.length c3] 26))
        replace B := Lib.hid (B.out.alloc B.out.size (Obj.cells #[.int .i64 (m : Int), .slice a3 RL.length c3] 26))
        go_wp2_with fail
        generalize (w3.alloc (Obj.cells #[.int .i64 (m : Int), .slice a3 RL.length c3] 26)) = w4 at *
        generalize ho3 : w3.heap.size = o3 at *
        refine (HS.out _).mono ?_
        rintro e w5 ⟨a5, c5, rfl, hin5, hb5⟩
        have hz5 := hb5.size
        replace Z := Lib.hid (Z.out.next hb5 Z.out.lt)
        replace IR := Lib.hid (IR.out.below hb5 (Nat.le_refl _))
        replace B := Lib.hid (B.out.trans (hb5.mono B.out.size))
        have IS := Lib.hid (hin5.mono (Nat.zero_le _))
        clear hin5 hb5
        have Y := Lib.hid (Bx.new (m : Int) (.slice a5 RL.length c5) w5)
        replace Z := Lib.hid (Z.out.alloc (Obj.cells #[.int .i64 (m : Int), .slice a5 RL.length c5] 26))
        replace IR := Lib.hid (IR.out.alloc (Obj.cells #[.int .i64 (m : Int), .slice a5 RL.length c5] 26))
        replace IS := Lib.hid (IS.out.alloc (Obj.cells #[.int .i64 (m : Int), .slice a5 RL.length c5] 26))
        replace B := Lib.hid (B.out.alloc B.out.size (Obj.cells #[.int .i64 (m : Int), .slice a5 RL.length c5] 26))
        have z0 := Z.out.out.at0
        have z1 := Z.out.out.at1
        go_wp2_with fail
        clear z0 z1
        generalize (w5.alloc (Obj.cells #[.int .i64 (m : Int), .slice a5 RL.length c5] 26)) = w6 at *
        generalize ho4 : w5.heap.size = o4 at *
        refine (lawsEqualClass _ _ _ _ _ _ _ _ IR.out.rd IS.out.rd).mono ?_
        rintro e w7 ⟨rfl, hb7⟩
        have hz7 := hb7.size
        replace Z := Lib.hid (Z.out.next hb7 Z.out.lt)
        replace Y := Lib.hid (Y.out.next hb7 Y.out.lt)
        replace IR := Lib.hid (IR.out.below hb7 (Nat.le_refl _))
        replace IS := Lib.hid (IS.out.below hb7 (Nat.le_refl _))
        replace B := Lib.hid (B.out.trans (hb7.mono B.out.size))
        clear hb7
        have hzz := HZ0.out
        have z0 := Z.out.out.at0
        have z1 := Z.out.out.at1
        have y0 := Y.out.out.at0
        have y1 := Y.out.out.at1
        go_wp2_with fail
        clear z0 z1 y0 y1
        go_ret
        exact ⟨rfl, B.out⟩
      · have hk1 : decide (k < 0) = false := decide_eq_false hk
        obtain ⟨h1, h2, h3⟩ := ball_good hm hv hk hOK
        have HM := Lib.hid (fun v w h => implIsMaximum (m : Int) v (toI (ball m S.toNat k)) w h)
        have HB := Lib.hid (fun w => implSauerBound (m : Int) k w)
        have HC := Lib.hid (fun v w h => implCoverRadius (m : Int) v (toI (ball m S.toNat k)) w h)
        rw [h1] at HM
        rw [h3] at HC
        generalize toI (ball m S.toNat k) = RL at *
        generalize sauerB (m : Int) k = sb at *
        have HL2 := Lib.hid h2
        have hwk : IntKind.i64.wrap ((m : Int) - k) = (m : Int) - k := by rw [IntKind.wrap_i64]; omega
        clear hv hOK eN eL h1 h2 h3
        by_cases hd : (m : Int) < k
        · have hd1 : (m : Int) - k < 0 := by omega
          have hd2 : decide ((m : Int) - k < 0) = true := decide_eq_true hd1
          rw [show max ((m : Int) - k) 0 = 0 by omega] at HC
          go_wp2_with fail
          refine (HI.out _).mono ?_
          rintro e w3 ⟨a3, c3, rfl, hin3, hb3⟩
          have hz3 := hb3.size
          replace B := Lib.hid (B.out.trans (hb3.mono B.out.size))
          have IR := Lib.hid (hin3.mono (Nat.zero_le _))
          clear hin3 hb3
          have Z := Lib.hid (Bx.new (m : Int) (.slice a3 RL.length c3) w3)
          replace IR := Lib.hid (IR.out.alloc (Obj.cells #[.int .i64 (m : Int), .slice a3 RL.length c3] 26))
          replace B := Lib.hid (B.out.alloc B.out.size (Obj.cells #[.int .i64 (m : Int), .slice a3 RL.length c3] 26))
          go_wp2_with fail
          generalize (w3.alloc (Obj.cells #[.int .i64 (m : Int), .slice a3 RL.length c3] 26)) = w4 at *
          generalize ho3 : w3.heap.size = o3 at *
          refine (HS.out _).mono ?_
          rintro e w5 ⟨a5, c5, rfl, hin5, hb5⟩
          have hz5 := hb5.size
          replace Z := Lib.hid (Z.out.next hb5 Z.out.lt)
          replace IR := Lib.hid (IR.out.below hb5 (Nat.le_refl _))
          replace B := Lib.hid (B.out.trans (hb5.mono B.out.size))
          have IS := Lib.hid (hin5.mono (Nat.zero_le _))
          clear hin5 hb5
          have Y := Lib.hid (Bx.new (m : Int) (.slice a5 RL.length c5) w5)
          replace Z := Lib.hid (Z.out.alloc (Obj.cells #[.int .i64 (m : Int), .slice a5 RL.length c5] 26))
          replace IR := Lib.hid (IR.out.alloc (Obj.cells #[.int .i64 (m : Int), .slice a5 RL.length c5] 26))
          replace IS := Lib.hid (IS.out.alloc (Obj.cells #[.int .i64 (m : Int), .slice a5 RL.length c5] 26))
          replace B := Lib.hid (B.out.alloc B.out.size (Obj.cells #[.int .i64 (m : Int), .slice a5 RL.length c5] 26))
          have z0 := Z.out.out.at0
          have z1 := Z.out.out.at1
          go_wp2_with fail
          clear z0 z1
          generalize (w5.alloc (Obj.cells #[.int .i64 (m : Int), .slice a5 RL.length c5] 26)) = w6 at *
          generalize ho4 : w5.heap.size = o4 at *
          refine (lawsEqualClass _ _ _ _ _ _ _ _ IR.out.rd IS.out.rd).mono ?_
          rintro e w7 ⟨rfl, hb7⟩
          have hz7 := hb7.size
          replace Z := Lib.hid (Z.out.next hb7 Z.out.lt)
          replace Y := Lib.hid (Y.out.next hb7 Y.out.lt)
          replace IR := Lib.hid (IR.out.below hb7 (Nat.le_refl _))
          replace IS := Lib.hid (IS.out.below hb7 (Nat.le_refl _))
          replace B := Lib.hid (B.out.trans (hb7.mono B.out.size))
          clear hb7
          clear HI HS IS Y
          have z0 := Z.out.out.at0
          have z1 := Z.out.out.at1
          go_wp2_with fail
          have h2 := HL2.out
          refine wp_region_held_drew (S := fun w' => w'.cell? ⟨o3, 0, none⟩ = some (Value.int .i64 (m : Int)) ∧ w'.cell? ⟨o3, 1, none⟩ = some (.slice a3 RL.length c3)) (by kernel_rfl) (by first | exact ⟨z0, z1⟩ | go_keep) (fun hHeld => ?_)
          refine wpAnyH_take (i := 0) (v := ?_) rfl (by kernel_rfl) (by kernel_rfl) (by kernel_rfl) (fun _ _ _ h => h) (Or.inl ⟨by rfl, ?_⟩) (by assumption) ?_
          rotate_left
          · (intro w hSw; (try dsimp only at hSw); go_simp; try with_reducible rfl)
          try simp only [List.getElem_toArray, List.getElem_cons_zero, Act.put, List.setIfInBounds_toArray, List.set_cons_zero, List.set_cons_succ]
          refine wpAnyH_ready (rs := [1]) (by kernel_rfl) (by simp) ?_
          refine AllReadyH.cons rfl (fun K hK => ?_) AllReadyH.nil
          try simp only [List.getElem_toArray]
          go_simp
          (go_at_call 34; refine (HM.out _ _ (by first | exact IR.out.rd | exact IR.out.rd.below (k := w7.heap.size) ((Below.refl _ _).drew) (Nat.le_refl _))).mono ?_; rintro e w8 ⟨rfl, hbd⟩; have hb8 : Below w7.heap.size w7 w8 := (by first | exact hbd | exact ⟨hbd.os, hbd.tape, hbd.output, hbd.size, hbd.block⟩); clear hbd; have hz8 := hb8.size; replace Z := Lib.hid (Z.out.next hb8 Z.out.lt); replace IR := Lib.hid (IR.out.below hb8 (Nat.le_refl _)); replace B := Lib.hid (B.out.trans (hb8.mono B.out.size)); clear hb8; have z0_8 := Z.out.out.at0; have z1_8 := Z.out.out.at1)
          refine hK.out _ _ (by first | exact ⟨z0_8, z1_8⟩ | exact ⟨z0, z1⟩ | go_keep) (fun hHeld => ?_)
          clear hK K
          try simp only [List.getElem_toArray, List.getElem_cons_zero, List.getElem_cons_succ, Act.put, List.setIfInBounds_toArray, List.set_cons_zero, List.set_cons_succ]
          refine wpAnyH_take (i := 2) (v := ?_) rfl (by kernel_rfl) (by kernel_rfl) (by kernel_rfl) (fun _ _ _ h => h) (Or.inl ⟨by rfl, ?_⟩) (by assumption) ?_
          rotate_left
          · (intro w hSw; (try dsimp only at hSw); go_simp; try with_reducible rfl)
          try simp only [List.getElem_toArray, List.getElem_cons_zero, List.getElem_cons_succ, Act.put, List.setIfInBounds_toArray, List.set_cons_zero, List.set_cons_succ]
          refine wpAnyH_take (i := 3) (v := ?_) rfl (by kernel_rfl) (by kernel_rfl) (by kernel_rfl) (fun _ _ _ h => h) (Or.inl ⟨by rfl, ?_⟩) (by assumption) ?_
          rotate_left
          · (intro w hSw; (try dsimp only at hSw); go_simp; try with_reducible rfl)
          try simp only [List.getElem_toArray, List.getElem_cons_zero, List.getElem_cons_succ, Act.put, List.setIfInBounds_toArray, List.set_cons_zero, List.set_cons_succ]
          refine wpAnyH_take (i := 4) (v := ?_) rfl (by kernel_rfl) (by kernel_rfl) (by kernel_rfl) (fun _ _ _ h => h) (Or.inl ⟨by rfl, ?_⟩) (by assumption) ?_
          rotate_left
          · (intro w hSw; (try dsimp only at hSw); go_simp; try with_reducible rfl)
          try simp only [List.getElem_toArray, List.getElem_cons_zero, List.getElem_cons_succ, Act.put, List.setIfInBounds_toArray, List.set_cons_zero, List.set_cons_succ]
          refine wpAnyH_take (i := 5) (v := ?_) rfl (by kernel_rfl) (by kernel_rfl) (by kernel_rfl) (fun _ _ _ h => h) (Or.inl ⟨by rfl, ?_⟩) (by assumption) ?_
          rotate_left
          · (intro w hSw; (try dsimp only at hSw); go_simp; try with_reducible rfl)
          try simp only [List.getElem_toArray, List.getElem_cons_zero, List.getElem_cons_succ, Act.put, List.setIfInBounds_toArray, List.set_cons_zero, List.set_cons_succ]
          refine wpAnyH_take (i := 6) (v := ?_) rfl (by kernel_rfl) (by kernel_rfl) (by kernel_rfl) (fun _ _ _ h => h) (Or.inl ⟨by rfl, ?_⟩) (by assumption) ?_
          rotate_left
          · (intro w hSw; (try dsimp only at hSw); go_simp; try with_reducible rfl)
          try simp only [List.getElem_toArray, List.getElem_cons_zero, List.getElem_cons_succ, Act.put, List.setIfInBounds_toArray, List.set_cons_zero, List.set_cons_succ]
          refine wpAnyH_take (i := 7) (v := ?_) rfl (by kernel_rfl) (by kernel_rfl) (by kernel_rfl) (fun _ _ _ h => h) (Or.inl ⟨by rfl, ?_⟩) (by assumption) ?_
          rotate_left
          · (intro w hSw; (try dsimp only at hSw); go_simp; try with_reducible rfl)
          try simp only [List.getElem_toArray, List.getElem_cons_zero, List.getElem_cons_succ, Act.put, List.setIfInBounds_toArray, List.set_cons_zero, List.set_cons_succ]
          refine wpAnyH_ready (rs := [8]) (by kernel_rfl) (by simp) ?_
          refine AllReadyH.cons rfl (fun K hK => ?_) AllReadyH.nil
          try simp only [List.getElem_toArray]
          go_simp
          (go_at_call 35; refine (HB.out _).mono ?_; rintro e w99 ⟨rfl, hw99⟩; subst w99)
          refine hK.out _ _ (by first | exact ⟨z0_8, z1_8⟩ | exact ⟨z0, z1⟩ | go_keep) (fun hHeld => ?_)
          clear hK K
          try simp only [List.getElem_toArray, List.getElem_cons_zero, List.getElem_cons_succ, Act.put, List.setIfInBounds_toArray, List.set_cons_zero, List.set_cons_succ]
          refine wpAnyH_take (i := 9) (v := ?_) rfl (by kernel_rfl) (by kernel_rfl) (by kernel_rfl) (fun _ _ _ h => h) (Or.inl ⟨by rfl, ?_⟩) (by assumption) ?_
          rotate_left
          · (intro w hSw; (try dsimp only at hSw); go_simp; try with_reducible rfl)
          try simp only [List.getElem_toArray, List.getElem_cons_zero, List.getElem_cons_succ, Act.put, List.setIfInBounds_toArray, List.set_cons_zero, List.set_cons_succ]
          refine wpAnyH_take (i := 10) (v := ?_) rfl (by kernel_rfl) (by kernel_rfl) (by kernel_rfl) (fun _ _ _ h => h) (Or.inl ⟨by rfl, ?_⟩) (by assumption) ?_
          rotate_left
          · (intro w hSw; (try dsimp only at hSw); go_simp; try with_reducible rfl)
          try simp only [List.getElem_toArray, List.getElem_cons_zero, List.getElem_cons_succ, Act.put, List.setIfInBounds_toArray, List.set_cons_zero, List.set_cons_succ]
          refine wpAnyH_take (i := 11) (v := ?_) rfl (by kernel_rfl) (by kernel_rfl) (by kernel_rfl) (fun _ _ _ h => h) (Or.inl ⟨by rfl, ?_⟩) (by assumption) ?_
          rotate_left
          · (intro w hSw; (try dsimp only at hSw); go_simp; try with_reducible rfl)
          try simp only [List.getElem_toArray, List.getElem_cons_zero, List.getElem_cons_succ, Act.put, List.setIfInBounds_toArray, List.set_cons_zero, List.set_cons_succ]
          refine wpAnyH_take (i := 12) (v := ?_) rfl (by kernel_rfl) (by kernel_rfl) (by kernel_rfl) (fun _ _ _ h => h) (Or.inl ⟨by rfl, ?_⟩) (by assumption) ?_
          rotate_left
          · (intro w hSw; (try dsimp only at hSw); go_simp; try with_reducible rfl)
          try simp only [List.getElem_toArray, List.getElem_cons_zero, List.getElem_cons_succ, Act.put, List.setIfInBounds_toArray, List.set_cons_zero, List.set_cons_succ]
          refine wpAnyH_take (i := 14) (v := ?_) rfl (by kernel_rfl) (by kernel_rfl) (by kernel_rfl) (fun _ _ _ h => h) (Or.inl ⟨by rfl, ?_⟩) (by assumption) ?_
          rotate_left
          · (intro w hSw; (try dsimp only at hSw); go_simp; try with_reducible rfl)
          try simp only [List.getElem_toArray, List.getElem_cons_zero, List.getElem_cons_succ, Act.put, List.setIfInBounds_toArray, List.set_cons_zero, List.set_cons_succ]
          refine wpAnyH_take (i := 15) (v := ?_) rfl (by kernel_rfl) (by kernel_rfl) (by kernel_rfl) (fun _ _ _ h => h) (Or.inl ⟨by rfl, ?_⟩) (by assumption) ?_
          rotate_left
          · (intro w hSw; (try dsimp only at hSw); go_simp; try with_reducible rfl)
          try simp only [List.getElem_toArray, List.getElem_cons_zero, List.getElem_cons_succ, Act.put, List.setIfInBounds_toArray, List.set_cons_zero, List.set_cons_succ]
          refine wpAnyH_take (i := 16) (v := ?_) rfl (by kernel_rfl) (by kernel_rfl) (by kernel_rfl) (fun _ _ _ h => h) (Or.inl ⟨by rfl, ?_⟩) (by assumption) ?_
          rotate_left
          · (intro w hSw; (try dsimp only at hSw); go_simp; (try rw [hwk]); try with_reducible rfl)
          try simp only [List.getElem_toArray, List.getElem_cons_zero, List.getElem_cons_succ, Act.put, List.setIfInBounds_toArray, List.set_cons_zero, List.set_cons_succ]
          refine wpAnyH_take (i := 17) (v := ?_) rfl (by kernel_rfl) (by kernel_rfl) (by kernel_rfl) (fun _ _ _ h => h) (Or.inl ⟨by rfl, ?_⟩) (by assumption) ?_
          rotate_left
          · (intro w hSw; (try dsimp only at hSw); go_simp; try with_reducible rfl)
          try simp only [List.getElem_toArray, List.getElem_cons_zero, List.getElem_cons_succ, Act.put, List.setIfInBounds_toArray, List.set_cons_zero, List.set_cons_succ]
          refine wpAnyH_ready (rs := [13]) (by kernel_rfl) (by simp) ?_
          refine AllReadyH.cons rfl (fun K hK => ?_) AllReadyH.nil
          try simp only [List.getElem_toArray]
          go_simp
          (go_at_call 36; refine (HC.out _ _ (by first | exact IR.out.rd | exact IR.out.rd.below (k := w8.heap.size) ((Below.refl _ _).drew) (Nat.le_refl _))).mono ?_; rintro e w9 ⟨rfl, hbd⟩; have hb9 : Below w8.heap.size w8 w9 := (by first | exact hbd | exact ⟨hbd.os, hbd.tape, hbd.output, hbd.size, hbd.block⟩); clear hbd; have hz9 := hb9.size; replace Z := Lib.hid (Z.out.next hb9 Z.out.lt); replace IR := Lib.hid (IR.out.below hb9 (Nat.le_refl _)); replace B := Lib.hid (B.out.trans (hb9.mono B.out.size)); clear hb9; have z0_9 := Z.out.out.at0; have z1_9 := Z.out.out.at1)
          refine hK.out _ _ (by first | exact ⟨z0_9, z1_9⟩ | exact ⟨z0_8, z1_8⟩ | exact ⟨z0, z1⟩ | go_keep) (fun hHeld => ?_)
          clear hK K
          try simp only [List.getElem_toArray, List.getElem_cons_zero, List.getElem_cons_succ, Act.put, List.setIfInBounds_toArray, List.set_cons_zero, List.set_cons_succ]
          refine wpAnyH_take (i := 18) (v := ?_) rfl (by kernel_rfl) (by kernel_rfl) (by kernel_rfl) (fun _ _ _ h => h) (Or.inl ⟨by rfl, ?_⟩) (by assumption) ?_
          rotate_left
          · (intro w hSw; (try dsimp only at hSw); go_simp; try with_reducible rfl)
          try simp only [List.getElem_toArray, List.getElem_cons_zero, List.getElem_cons_succ, Act.put, List.setIfInBounds_toArray, List.set_cons_zero, List.set_cons_succ]
          refine wpAnyH_take (i := 19) (v := ?_) rfl (by kernel_rfl) (by kernel_rfl) (by kernel_rfl) (fun _ _ _ h => h) (Or.inl ⟨by rfl, ?_⟩) (by assumption) ?_
          rotate_left
          · (intro w hSw; (try dsimp only at hSw); go_simp; try with_reducible rfl)
          try simp only [List.getElem_toArray, List.getElem_cons_zero, List.getElem_cons_succ, Act.put, List.setIfInBounds_toArray, List.set_cons_zero, List.set_cons_succ]
          refine wpAnyH_take (i := 20) (v := ?_) rfl (by kernel_rfl) (by kernel_rfl) (by kernel_rfl) (fun _ _ _ h => h) (Or.inl ⟨by rfl, ?_⟩) (by assumption) ?_
          rotate_left
          · (intro w hSw; (try dsimp only at hSw); go_simp; try with_reducible rfl)
          try simp only [List.getElem_toArray, List.getElem_cons_zero, List.getElem_cons_succ, Act.put, List.setIfInBounds_toArray, List.set_cons_zero, List.set_cons_succ]
          refine wpAnyH_done (by kernel_rfl) ?_ _
          go_wp2_with fail
          go_ret
          exact ⟨rfl, B.out⟩
        · have hd1 : ¬ (m : Int) - k < 0 := by omega
          have hd2 : decide ((m : Int) - k < 0) = false := decide_eq_false hd1
          rw [show max ((m : Int) - k) 0 = (m : Int) - k by omega] at HC
          go_wp2_with fail
          refine (HI.out _).mono ?_
          rintro e w3 ⟨a3, c3, rfl, hin3, hb3⟩
          have hz3 := hb3.size
          replace B := Lib.hid (B.out.trans (hb3.mono B.out.size))
          have IR := Lib.hid (hin3.mono (Nat.zero_le _))
          clear hin3 hb3
          have Z := Lib.hid (Bx.new (m : Int) (.slice a3 RL.length c3) w3)
          replace IR := Lib.hid (IR.out.alloc (Obj.cells #[.int .i64 (m : Int), .slice a3 RL.length c3] 26))
          replace B := Lib.hid (B.out.alloc B.out.size (Obj.cells #[.int .i64 (m : Int), .slice a3 RL.length c3] 26))
          go_wp2_with fail
          generalize (w3.alloc (Obj.cells #[.int .i64 (m : Int), .slice a3 RL.length c3] 26)) = w4 at *
          generalize ho3 : w3.heap.size = o3 at *
          refine (HS.out _).mono ?_
          rintro e w5 ⟨a5, c5, rfl, hin5, hb5⟩
          have hz5 := hb5.size
          replace Z := Lib.hid (Z.out.next hb5 Z.out.lt)
          replace IR := Lib.hid (IR.out.below hb5 (Nat.le_refl _))
          replace B := Lib.hid (B.out.trans (hb5.mono B.out.size))
          have IS := Lib.hid (hin5.mono (Nat.zero_le _))
          clear hin5 hb5
          have Y := Lib.hid (Bx.new (m : Int) (.slice a5 RL.length c5) w5)
          replace Z := Lib.hid (Z.out.alloc (Obj.cells #[.int .i64 (m : Int), .slice a5 RL.length c5] 26))
          replace IR := Lib.hid (IR.out.alloc (Obj.cells #[.int .i64 (m : Int), .slice a5 RL.length c5] 26))
          replace IS := Lib.hid (IS.out.alloc (Obj.cells #[.int .i64 (m : Int), .slice a5 RL.length c5] 26))
          replace B := Lib.hid (B.out.alloc B.out.size (Obj.cells #[.int .i64 (m : Int), .slice a5 RL.length c5] 26))
          have z0 := Z.out.out.at0
          have z1 := Z.out.out.at1
          go_wp2_with fail
          clear z0 z1
          generalize (w5.alloc (Obj.cells #[.int .i64 (m : Int), .slice a5 RL.length c5] 26)) = w6 at *
          generalize ho4 : w5.heap.size = o4 at *
          refine (lawsEqualClass _ _ _ _ _ _ _ _ IR.out.rd IS.out.rd).mono ?_
          rintro e w7 ⟨rfl, hb7⟩
          have hz7 := hb7.size
          replace Z := Lib.hid (Z.out.next hb7 Z.out.lt)
          replace Y := Lib.hid (Y.out.next hb7 Y.out.lt)
          replace IR := Lib.hid (IR.out.below hb7 (Nat.le_refl _))
          replace IS := Lib.hid (IS.out.below hb7 (Nat.le_refl _))
          replace B := Lib.hid (B.out.trans (hb7.mono B.out.size))
          clear hb7
          clear HI HS IS Y
          have z0 := Z.out.out.at0
          have z1 := Z.out.out.at1
          go_wp2_with fail
          have h2 := HL2.out
          refine wp_region_held_drew (S := fun w' => w'.cell? ⟨o3, 0, none⟩ = some (Value.int .i64 (m : Int)) ∧ w'.cell? ⟨o3, 1, none⟩ = some (.slice a3 RL.length c3)) (by kernel_rfl) (by first | exact ⟨z0, z1⟩ | go_keep) (fun hHeld => ?_)
          refine wpAnyH_take (i := 0) (v := ?_) rfl (by kernel_rfl) (by kernel_rfl) (by kernel_rfl) (fun _ _ _ h => h) (Or.inl ⟨by rfl, ?_⟩) (by assumption) ?_
          rotate_left
          · (intro w hSw; (try dsimp only at hSw); go_simp; try with_reducible rfl)
          try simp only [List.getElem_toArray, List.getElem_cons_zero, Act.put, List.setIfInBounds_toArray, List.set_cons_zero, List.set_cons_succ]
          refine wpAnyH_ready (rs := [1]) (by kernel_rfl) (by simp) ?_
          refine AllReadyH.cons rfl (fun K hK => ?_) AllReadyH.nil
          try simp only [List.getElem_toArray]
          go_simp
          (go_at_call 34; refine (HM.out _ _ (by first | exact IR.out.rd | exact IR.out.rd.below (k := w7.heap.size) ((Below.refl _ _).drew) (Nat.le_refl _))).mono ?_; rintro e w8 ⟨rfl, hbd⟩; have hb8 : Below w7.heap.size w7 w8 := (by first | exact hbd | exact ⟨hbd.os, hbd.tape, hbd.output, hbd.size, hbd.block⟩); clear hbd; have hz8 := hb8.size; replace Z := Lib.hid (Z.out.next hb8 Z.out.lt); replace IR := Lib.hid (IR.out.below hb8 (Nat.le_refl _)); replace B := Lib.hid (B.out.trans (hb8.mono B.out.size)); clear hb8; have z0_8 := Z.out.out.at0; have z1_8 := Z.out.out.at1)
          refine hK.out _ _ (by first | exact ⟨z0_8, z1_8⟩ | exact ⟨z0, z1⟩ | go_keep) (fun hHeld => ?_)
          clear hK K
          try simp only [List.getElem_toArray, List.getElem_cons_zero, List.getElem_cons_succ, Act.put, List.setIfInBounds_toArray, List.set_cons_zero, List.set_cons_succ]
          refine wpAnyH_take (i := 2) (v := ?_) rfl (by kernel_rfl) (by kernel_rfl) (by kernel_rfl) (fun _ _ _ h => h) (Or.inl ⟨by rfl, ?_⟩) (by assumption) ?_
          rotate_left
          · (intro w hSw; (try dsimp only at hSw); go_simp; try with_reducible rfl)
          try simp only [List.getElem_toArray, List.getElem_cons_zero, List.getElem_cons_succ, Act.put, List.setIfInBounds_toArray, List.set_cons_zero, List.set_cons_succ]
          refine wpAnyH_take (i := 3) (v := ?_) rfl (by kernel_rfl) (by kernel_rfl) (by kernel_rfl) (fun _ _ _ h => h) (Or.inl ⟨by rfl, ?_⟩) (by assumption) ?_
          rotate_left
          · (intro w hSw; (try dsimp only at hSw); go_simp; try with_reducible rfl)
          try simp only [List.getElem_toArray, List.getElem_cons_zero, List.getElem_cons_succ, Act.put, List.setIfInBounds_toArray, List.set_cons_zero, List.set_cons_succ]
          refine wpAnyH_take (i := 4) (v := ?_) rfl (by kernel_rfl) (by kernel_rfl) (by kernel_rfl) (fun _ _ _ h => h) (Or.inl ⟨by rfl, ?_⟩) (by assumption) ?_
          rotate_left
          · (intro w hSw; (try dsimp only at hSw); go_simp; try with_reducible rfl)
          try simp only [List.getElem_toArray, List.getElem_cons_zero, List.getElem_cons_succ, Act.put, List.setIfInBounds_toArray, List.set_cons_zero, List.set_cons_succ]
          refine wpAnyH_take (i := 5) (v := ?_) rfl (by kernel_rfl) (by kernel_rfl) (by kernel_rfl) (fun _ _ _ h => h) (Or.inl ⟨by rfl, ?_⟩) (by assumption) ?_
          rotate_left
          · (intro w hSw; (try dsimp only at hSw); go_simp; try with_reducible rfl)
          try simp only [List.getElem_toArray, List.getElem_cons_zero, List.getElem_cons_succ, Act.put, List.setIfInBounds_toArray, List.set_cons_zero, List.set_cons_succ]
          refine wpAnyH_take (i := 6) (v := ?_) rfl (by kernel_rfl) (by kernel_rfl) (by kernel_rfl) (fun _ _ _ h => h) (Or.inl ⟨by rfl, ?_⟩) (by assumption) ?_
          rotate_left
          · (intro w hSw; (try dsimp only at hSw); go_simp; try with_reducible rfl)
          try simp only [List.getElem_toArray, List.getElem_cons_zero, List.getElem_cons_succ, Act.put, List.setIfInBounds_toArray, List.set_cons_zero, List.set_cons_succ]
          refine wpAnyH_take (i := 7) (v := ?_) rfl (by kernel_rfl) (by kernel_rfl) (by kernel_rfl) (fun _ _ _ h => h) (Or.inl ⟨by rfl, ?_⟩) (by assumption) ?_
          rotate_left
          · (intro w hSw; (try dsimp only at hSw); go_simp; try with_reducible rfl)
          try simp only [List.getElem_toArray, List.getElem_cons_zero, List.getElem_cons_succ, Act.put, List.setIfInBounds_toArray, List.set_cons_zero, List.set_cons_succ]
          refine wpAnyH_ready (rs := [8]) (by kernel_rfl) (by simp) ?_
          refine AllReadyH.cons rfl (fun K hK => ?_) AllReadyH.nil
          try simp only [List.getElem_toArray]
          go_simp
          (go_at_call 35; refine (HB.out _).mono ?_; rintro e w99 ⟨rfl, hw99⟩; subst w99)
          refine hK.out _ _ (by first | exact ⟨z0_8, z1_8⟩ | exact ⟨z0, z1⟩ | go_keep) (fun hHeld => ?_)
          clear hK K
          try simp only [List.getElem_toArray, List.getElem_cons_zero, List.getElem_cons_succ, Act.put, List.setIfInBounds_toArray, List.set_cons_zero, List.set_cons_succ]
          refine wpAnyH_take (i := 9) (v := ?_) rfl (by kernel_rfl) (by kernel_rfl) (by kernel_rfl) (fun _ _ _ h => h) (Or.inl ⟨by rfl, ?_⟩) (by assumption) ?_
          rotate_left
          · (intro w hSw; (try dsimp only at hSw); go_simp; try with_reducible rfl)
          try simp only [List.getElem_toArray, List.getElem_cons_zero, List.getElem_cons_succ, Act.put, List.setIfInBounds_toArray, List.set_cons_zero, List.set_cons_succ]
          refine wpAnyH_take (i := 10) (v := ?_) rfl (by kernel_rfl) (by kernel_rfl) (by kernel_rfl) (fun _ _ _ h => h) (Or.inl ⟨by rfl, ?_⟩) (by assumption) ?_
          rotate_left
          · (intro w hSw; (try dsimp only at hSw); go_simp; try with_reducible rfl)
          try simp only [List.getElem_toArray, List.getElem_cons_zero, List.getElem_cons_succ, Act.put, List.setIfInBounds_toArray, List.set_cons_zero, List.set_cons_succ]
          refine wpAnyH_take (i := 11) (v := ?_) rfl (by kernel_rfl) (by kernel_rfl) (by kernel_rfl) (fun _ _ _ h => h) (Or.inl ⟨by rfl, ?_⟩) (by assumption) ?_
          rotate_left
          · (intro w hSw; (try dsimp only at hSw); go_simp; try with_reducible rfl)
          try simp only [List.getElem_toArray, List.getElem_cons_zero, List.getElem_cons_succ, Act.put, List.setIfInBounds_toArray, List.set_cons_zero, List.set_cons_succ]
          refine wpAnyH_take (i := 12) (v := ?_) rfl (by kernel_rfl) (by kernel_rfl) (by kernel_rfl) (fun _ _ _ h => h) (Or.inl ⟨by rfl, ?_⟩) (by assumption) ?_
          rotate_left
          · (intro w hSw; (try dsimp only at hSw); go_simp; try with_reducible rfl)
          try simp only [List.getElem_toArray, List.getElem_cons_zero, List.getElem_cons_succ, Act.put, List.setIfInBounds_toArray, List.set_cons_zero, List.set_cons_succ]
          refine wpAnyH_take (i := 14) (v := ?_) rfl (by kernel_rfl) (by kernel_rfl) (by kernel_rfl) (fun _ _ _ h => h) (Or.inl ⟨by rfl, ?_⟩) (by assumption) ?_
          rotate_left
          · (intro w hSw; (try dsimp only at hSw); go_simp; try with_reducible rfl)
          try simp only [List.getElem_toArray, List.getElem_cons_zero, List.getElem_cons_succ, Act.put, List.setIfInBounds_toArray, List.set_cons_zero, List.set_cons_succ]
          refine wpAnyH_take (i := 15) (v := ?_) rfl (by kernel_rfl) (by kernel_rfl) (by kernel_rfl) (fun _ _ _ h => h) (Or.inl ⟨by rfl, ?_⟩) (by assumption) ?_
          rotate_left
          · (intro w hSw; (try dsimp only at hSw); go_simp; try with_reducible rfl)
          try simp only [List.getElem_toArray, List.getElem_cons_zero, List.getElem_cons_succ, Act.put, List.setIfInBounds_toArray, List.set_cons_zero, List.set_cons_succ]
          refine wpAnyH_take (i := 16) (v := ?_) rfl (by kernel_rfl) (by kernel_rfl) (by kernel_rfl) (fun _ _ _ h => h) (Or.inl ⟨by rfl, ?_⟩) (by assumption) ?_
          rotate_left
          · (intro w hSw; (try dsimp only at hSw); go_simp; (try rw [hwk]); try with_reducible rfl)
          try simp only [List.getElem_toArray, List.getElem_cons_zero, List.getElem_cons_succ, Act.put, List.setIfInBounds_toArray, List.set_cons_zero, List.set_cons_succ]
          refine wpAnyH_take (i := 17) (v := ?_) rfl (by kernel_rfl) (by kernel_rfl) (by kernel_rfl) (fun _ _ _ h => h) (Or.inl ⟨by rfl, ?_⟩) (by assumption) ?_
          rotate_left
          · (intro w hSw; (try dsimp only at hSw); go_simp; try with_reducible rfl)
          try simp only [List.getElem_toArray, List.getElem_cons_zero, List.getElem_cons_succ, Act.put, List.setIfInBounds_toArray, List.set_cons_zero, List.set_cons_succ]
          refine wpAnyH_ready (rs := [13]) (by kernel_rfl) (by simp) ?_
          refine AllReadyH.cons rfl (fun K hK => ?_) AllReadyH.nil
          try simp only [List.getElem_toArray]
          go_simp
          (go_at_call 36; refine (HC.out _ _ (by first | exact IR.out.rd | exact IR.out.rd.below (k := w8.heap.size) ((Below.refl _ _).drew) (Nat.le_refl _))).mono ?_; rintro e w9 ⟨rfl, hbd⟩; have hb9 : Below w8.heap.size w8 w9 := (by first | exact hbd | exact ⟨hbd.os, hbd.tape, hbd.output, hbd.size, hbd.block⟩); clear hbd; have hz9 := hb9.size; replace Z := Lib.hid (Z.out.next hb9 Z.out.lt); replace IR := Lib.hid (IR.out.below hb9 (Nat.le_refl _)); replace B := Lib.hid (B.out.trans (hb9.mono B.out.size)); clear hb9; have z0_9 := Z.out.out.at0; have z1_9 := Z.out.out.at1)
          refine hK.out _ _ (by first | exact ⟨z0_9, z1_9⟩ | exact ⟨z0_8, z1_8⟩ | exact ⟨z0, z1⟩ | go_keep) (fun hHeld => ?_)
          clear hK K
          try simp only [List.getElem_toArray, List.getElem_cons_zero, List.getElem_cons_succ, Act.put, List.setIfInBounds_toArray, List.set_cons_zero, List.set_cons_succ]
          refine wpAnyH_take (i := 18) (v := ?_) rfl (by kernel_rfl) (by kernel_rfl) (by kernel_rfl) (fun _ _ _ h => h) (Or.inl ⟨by rfl, ?_⟩) (by assumption) ?_
          rotate_left
          · (intro w hSw; (try dsimp only at hSw); go_simp; try with_reducible rfl)
          try simp only [List.getElem_toArray, List.getElem_cons_zero, List.getElem_cons_succ, Act.put, List.setIfInBounds_toArray, List.set_cons_zero, List.set_cons_succ]
          refine wpAnyH_take (i := 19) (v := ?_) rfl (by kernel_rfl) (by kernel_rfl) (by kernel_rfl) (fun _ _ _ h => h) (Or.inl ⟨by rfl, ?_⟩) (by assumption) ?_
          rotate_left
          · (intro w hSw; (try dsimp only at hSw); go_simp; try with_reducible rfl)
          try simp only [List.getElem_toArray, List.getElem_cons_zero, List.getElem_cons_succ, Act.put, List.setIfInBounds_toArray, List.set_cons_zero, List.set_cons_succ]
          refine wpAnyH_take (i := 20) (v := ?_) rfl (by kernel_rfl) (by kernel_rfl) (by kernel_rfl) (fun _ _ _ h => h) (Or.inl ⟨by rfl, ?_⟩) (by assumption) ?_
          rotate_left
          · (intro w hSw; (try dsimp only at hSw); go_simp; try with_reducible rfl)
          try simp only [List.getElem_toArray, List.getElem_cons_zero, List.getElem_cons_succ, Act.put, List.setIfInBounds_toArray, List.set_cons_zero, List.set_cons_succ]
          refine wpAnyH_done (by kernel_rfl) ?_ _
          go_wp2_with fail
          go_ret
          exact ⟨rfl, B.out⟩
    · rw [Bool.not_eq_true] at hv
      rw [show blN N S = 0 by rw [blN, if_neg (by rw [hv]; simp)], blL_no hv, hv] at HI HS
      obtain ⟨RL, hRL⟩ : ∃ RL : List Int, RL = [] := ⟨_, rfl⟩
      rw [← hRL] at HI HS
      clear hRL hv hOK
      go_wp2_with fail
      refine (HI.out _).mono ?_
      rintro e w3 ⟨a3, c3, rfl, hin3, hb3⟩
      have hz3 := hb3.size
      replace B := Lib.hid (B.out.trans (hb3.mono B.out.size))
      have IR := Lib.hid (hin3.mono (Nat.zero_le _))
      clear hin3 hb3
      have Z := Lib.hid (Bx.new (0 : Int) (.slice a3 RL.length c3) w3)
      replace IR := Lib.hid (IR.out.alloc (Obj.cells #[.int .i64 (0 : Int), .slice a3 RL.length c3] 26))
      replace B := Lib.hid (B.out.alloc B.out.size (Obj.cells #[.int .i64 (0 : Int), .slice a3 RL.length c3] 26))
      go_wp2_with fail
      generalize (w3.alloc (Obj.cells #[.int .i64 (0 : Int), .slice a3 RL.length c3] 26)) = w4 at *
      generalize ho3 : w3.heap.size = o3 at *
      refine (HS.out _).mono ?_
      rintro e w5 ⟨a5, c5, rfl, hin5, hb5⟩
      have hz5 := hb5.size
      replace Z := Lib.hid (Z.out.next hb5 Z.out.lt)
      replace IR := Lib.hid (IR.out.below hb5 (Nat.le_refl _))
      replace B := Lib.hid (B.out.trans (hb5.mono B.out.size))
      have IS := Lib.hid (hin5.mono (Nat.zero_le _))
      clear hin5 hb5
      have Y := Lib.hid (Bx.new (0 : Int) (.slice a5 RL.length c5) w5)
      replace Z := Lib.hid (Z.out.alloc (Obj.cells #[.int .i64 (0 : Int), .slice a5 RL.length c5] 26))
      replace IR := Lib.hid (IR.out.alloc (Obj.cells #[.int .i64 (0 : Int), .slice a5 RL.length c5] 26))
      replace IS := Lib.hid (IS.out.alloc (Obj.cells #[.int .i64 (0 : Int), .slice a5 RL.length c5] 26))
      replace B := Lib.hid (B.out.alloc B.out.size (Obj.cells #[.int .i64 (0 : Int), .slice a5 RL.length c5] 26))
      have z0 := Z.out.out.at0
      have z1 := Z.out.out.at1
      go_wp2_with fail
      clear z0 z1
      generalize (w5.alloc (Obj.cells #[.int .i64 (0 : Int), .slice a5 RL.length c5] 26)) = w6 at *
      generalize ho4 : w5.heap.size = o4 at *
      refine (lawsEqualClass _ _ _ _ _ _ _ _ IR.out.rd IS.out.rd).mono ?_
      rintro e w7 ⟨rfl, hb7⟩
      have hz7 := hb7.size
      replace Z := Lib.hid (Z.out.next hb7 Z.out.lt)
      replace Y := Lib.hid (Y.out.next hb7 Y.out.lt)
      replace IR := Lib.hid (IR.out.below hb7 (Nat.le_refl _))
      replace IS := Lib.hid (IS.out.below hb7 (Nat.le_refl _))
      replace B := Lib.hid (B.out.trans (hb7.mono B.out.size))
      clear hb7
      have z0 := Z.out.out.at0
      have z1 := Z.out.out.at1
      have y0 := Y.out.out.at0
      have y1 := Y.out.out.at1
      go_wp2_with fail
      clear z0 z1 y0 y1
      refine (lawsEqualClass _ _ _ _ _ _ _ _ IR.out.rd IS.out.rd).mono ?_
      rintro e w8 ⟨rfl, hb8⟩
      have hz8 := hb8.size
      replace Z := Lib.hid (Z.out.next hb8 Z.out.lt)
      replace Y := Lib.hid (Y.out.next hb8 Y.out.lt)
      replace IR := Lib.hid (IR.out.below hb8 (Nat.le_refl _))
      replace IS := Lib.hid (IS.out.below hb8 (Nat.le_refl _))
      replace B := Lib.hid (B.out.trans (hb8.mono B.out.size))
      clear hb8
      have z0 := Z.out.out.at0
      have z1 := Z.out.out.at1
      have y0 := Y.out.out.at0
      have y1 := Y.out.out.at1
      go_wp2_with fail
      clear z0 z1 y0 y1
      go_ret
      exact ⟨rfl, B.out⟩
  · go_enter Try.func9, Try.ntmps9
    go_wp2_with fail
    go_ret
    exact ⟨rfl, Below.refl _ _⟩

end Go.Proofs.Ytpcjecahplglfab
