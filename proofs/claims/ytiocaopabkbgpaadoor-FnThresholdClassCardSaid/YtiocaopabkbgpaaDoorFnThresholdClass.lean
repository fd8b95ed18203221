/- FnThresholdClass's walk: thresholds are learned by halving. Conditions: the code is a slice of bytes. -/
import Derived.Test.YtiocaopabkbgpaaDoorLawHc
import Derived.Test.YtiocaopabkbgpaaDoorLittle
import Derived.Test.YtiocaopabkbgpaaDoorMaxi
import Derived.Test.YtiocaopabkbgpaaDoorThr
import Derived.Test.YtiocaopabkbgpaaDoorThrM
import Derived.Test.YtiocaopabkbgpaaDoorZC
import Derived.Test.YtiocaopabkbgpaaDoorZJ
import Derived.Test.YtiocaopabkbgpaaDoorZK
import Derived.Test.YtiocaopabkbgpaaDoorZM
namespace Go.Proofs.YtiocaopabkbgpaaDoor
open Go.RowKit

theorem eqB_self (xs : List Int) : eqB xs xs = true := eqB_of rfl (fun _ _ => rfl)

set_option maxHeartbeats 6400000 in
set_option maxRecDepth 100000 in
theorem walkFnThresholdClass (a : Option Addr) (b off n cap : Nat) (w : World) (hc : n ≤ cap) (hcap : cap ≤ maxLen) (h : Byt w a b off n) (hsw : SW w) :
    Calls Tryd.prog 8 #[.slice a n cap] w fun e w' => e = .returned (.bool true) ∧ Below w.heap.size w w' := by
  have HSW := Lib.hid hsw
  clear hsw
  by_cases hn : n ≤ 1048576
  · have HD := Lib.hid (dDrawThresholdClass a b off n cap w hc hn hcap h)
    clear h
    go_enter Tryd.func8, Tryd.ntmps8
    go_wp2_with fail
    refine HD.out.mono ?_
    rintro e w2 ⟨i, hi, rfl, hb⟩
    have B := Lib.hid hb
    obtain ⟨bn0, bn1⟩ := thr_bd ⟨i, hi⟩
    dsimp only at bn0 bn1
    generalize thrNs.getD i 0 = N at *
    clear hb HD hi
    have HI := Lib.hid (fun w => implThresholdClass N w)
    have HS := Lib.hid (fun w => specThresholdClass N w)
    by_cases hv : 0 ≤ N ∧ N ≤ 5
    · obtain ⟨m, rfl⟩ := Int.eq_ofNat_of_zero_le hv.1
      have hm : m ≤ 5 := by omega
      have eN : thN (m : Int) = m := by rw [thN, if_pos hv]
      have eL : thL (m : Int) = toI (thr (m + 1)) := by rw [thL, if_pos hv, Int.toNat_natCast]
      rw [eN, eL] at HI HS
      obtain ⟨l, q, g1, g2, g3, g4, g5, g6, g7, g8, g9, g10, g11⟩ := thr_good hm
      have HL := Lib.hid (fun v w h hs => implLittlestoneOf (m : Int) v (toI (thr (m + 1))) w h hs)
      have HQ := Lib.hid (fun v w h hs => implMembershipDepth (m : Int) v (toI (thr (m + 1))) w h hs)
      have HVC := Lib.hid (fun v w h => implVCDimension (m : Int) v (toI (thr (m + 1))) w h)
      have HM := Lib.hid (fun v w h => implIsMaximum (m : Int) v (toI (thr (m + 1))) w h)
      rw [g1] at HL
      rw [g2] at HQ
      rw [g10] at HVC
      rw [g11] at HM
      have HLen := Lib.hid (show (toI (thr (m + 1))).length = m + 1 by rw [toI_length, thr_len])
      generalize toI (thr (m + 1)) = RL at *
      have HP1 := Lib.hid (fun w => lawsPower (l : Int) w (by omega) (by omega))
      have HP2 := Lib.hid (fun w => lawsPower ((l : Int) + 1) w (by omega) (by omega))
      have HP3 := Lib.hid (fun w => lawsPower (q : Int) w (by omega) (by omega))
      rw [show ((l : Int)).toNat = l by omega, show (2 : Int) ^ l = ((2 ^ l : Nat) : Int) by simp] at HP1
      rw [show ((l : Int) + 1).toNat = l + 1 by omega, show (2 : Int) ^ (l + 1) = ((2 ^ (l + 1) : Nat) : Int) by simp] at HP2
      rw [show ((q : Int)).toNat = q by omega, show (2 : Int) ^ q = ((2 ^ q : Nat) : Int) by simp] at HP3
      generalize 2 ^ (l + 1) = p2 at *
      generalize 2 ^ l = p1 at *
      have d1 : decide ((p1 : Int) ≤ (m : Int) + 1) = true := decide_eq_true (by omega)
      have d2 : decide ((m : Int) + 1 < (p2 : Int)) = true := decide_eq_true (by omega)
      have dm0 : decide ((m : Int) < 0) = false := decide_eq_false (by omega)
      have dm5 : decide (5 < (m : Int)) = false := decide_eq_false (by omega)
      have k1 : decide (p1 ≤ m + 1) = true := decide_eq_true g5
      have k2 : decide (m + 1 < p2) = true := decide_eq_true g6
      clear hv eN eL g1 g2 g5 g6 g10 g11
      generalize hp3 : 2 ^ q = p3 at *
      have d3 : decide ((m : Int) + 1 ≤ (p3 : Int)) = true := decide_eq_true (by omega)
      have k3 : decide (m + 1 ≤ p3) = true := decide_eq_true g7
      by_cases hm0 : m = 0
      · have hq0 : q = 0 := g8.2 hm0
        have hqI : ((q : Int) == 0) = true := by rw [hq0]; rfl
        have hqd : decide ((q : Int) = 0) = true := by rw [hq0]; rfl
        have hml : (m : Int) < 1 := by omega
        have hmd : decide ((m : Int) < 1) = true := decide_eq_true hml
        have hmg : ¬ (1 : Int) < (m : Int) := by omega
        have hmd2 : decide ((1 : Int) < (m : Int)) = false := decide_eq_false hmg
        rw [show min (m : Int) 1 = m by omega] at HVC
        clear g8 g9 hq0 hm0 hp3
        go_wp2_with fail
        refine (HI.out _).mono ?_
        rintro e w3 ⟨a3, c3, rfl, hin3, hb3⟩
        rw [HLen.out] at hin3 ⊢
        have hz3 := hb3.size
        replace B := Lib.hid (B.out.trans (hb3.mono B.out.size))
        have IR := Lib.hid (hin3.mono (Nat.zero_le _))
        clear hin3 hb3
        have Z := Lib.hid (Bx.new (m : Int) (.slice a3 (m + 1) c3) w3)
        replace IR := Lib.hid (IR.out.alloc (Obj.cells #[.int .i64 (m : Int), .slice a3 (m + 1) c3] 25))
        replace B := Lib.hid (B.out.alloc B.out.size (Obj.cells #[.int .i64 (m : Int), .slice a3 (m + 1) c3] 25))
        go_wp2_with fail
        generalize (w3.alloc (Obj.cells #[.int .i64 (m : Int), .slice a3 (m + 1) c3] 25)) = w4 at *
        generalize ho3 : w3.heap.size = o3 at *
        have z0 := Z.out.out.at0
        have z1 := Z.out.out.at1
        go_wp2_with fail
        refine wp_region_held_drew (S := fun w' => w'.cell? ⟨o3, 0, none⟩ = some (.int .i64 (m : Int)) ∧ w'.cell? ⟨o3, 1, none⟩ = some (.slice a3 (m + 1) c3)) (by kernel_rfl) (by first | exact ⟨z0, z1⟩ | go_keep) (fun hHeld => ?_)
        refine wpAnyH_take (i := 0) (v := ?_) rfl (by kernel_rfl) (by kernel_rfl) (by kernel_rfl) (fun _ _ _ h => h) (Or.inl ⟨by rfl, ?_⟩) (by assumption) ?_
        rotate_left
        · (intro w hSw; (try dsimp only at hSw); go_simp; try with_reducible rfl)
        try simp only [List.getElem_toArray, List.getElem_cons_zero, Act.put, List.setIfInBounds_toArray, List.set_cons_zero, List.set_cons_succ]
        refine wpAnyH_take (i := 1) (v := ?_) rfl (by kernel_rfl) (by kernel_rfl) (by kernel_rfl) (fun _ _ _ h => h) (Or.inl ⟨by rfl, ?_⟩) (by assumption) ?_
        rotate_left
        · (intro w hSw; (try dsimp only at hSw); go_simp; try with_reducible rfl)
        try simp only [List.getElem_toArray, List.getElem_cons_zero, List.getElem_cons_succ, Act.put, List.setIfInBounds_toArray, List.set_cons_zero, List.set_cons_succ]
        refine wpAnyH_ready (rs := [2]) (by kernel_rfl) (by simp) ?_
        refine AllReadyH.cons rfl (fun K hK => ?_) AllReadyH.nil
        try simp only [List.getElem_toArray]
        go_simp
        (go_at_call 35; refine (HS.out _).mono ?_; rintro e w5 ⟨a5, c5, rfl, hin5, hbd⟩; rw [HLen.out] at hin5 ⊢; have hb5 : Below w4.heap.size w4 w5 := (by first | exact hbd | exact ⟨hbd.os, hbd.tape, hbd.output, hbd.size, hbd.block⟩); clear hbd; have hz5 := hb5.size; replace Z := Lib.hid (Z.out.next hb5 Z.out.lt); replace IR := Lib.hid (IR.out.below hb5 (Nat.le_refl _)); replace B := Lib.hid (B.out.trans (hb5.mono B.out.size)); have IS := Lib.hid (hin5.mono (Nat.zero_le _)); clear hin5; clear hb5; have z0_5 := Z.out.out.at0; have z1_5 := Z.out.out.at1)
        refine hK.out _ _ (by first | exact ⟨z0_5, z1_5⟩ | exact ⟨z0, z1⟩ | go_keep) (fun hHeld => ?_)
        clear hK K
        try simp only [List.getElem_toArray, List.getElem_cons_zero, List.getElem_cons_succ, Act.put, List.setIfInBounds_toArray, List.set_cons_zero, List.set_cons_succ]
        refine wpAnyH_ready (rs := [3]) (by kernel_rfl) (by simp) ?_
        refine AllReadyH.cons rfl (fun K hK => ?_) AllReadyH.nil
        try simp only [List.getElem_toArray]
        go_simp
        (go_at_call 13; refine (lawsEqualClass _ _ _ _ _ _ _ _ (by first | exact IR.out.rd | exact IR.out.rd.below (k := w5.heap.size) ((Below.refl _ _).drew) (Nat.le_refl _)) (by first | exact IS.out.rd | exact IS.out.rd.below (k := w5.heap.size) ((Below.refl _ _).drew) (Nat.le_refl _))).mono ?_; rintro e w6 ⟨rfl, hbd⟩; have hb6 : Below w5.heap.size w5 w6 := (by first | exact hbd | exact ⟨hbd.os, hbd.tape, hbd.output, hbd.size, hbd.block⟩); clear hbd; have hz6 := hb6.size; replace Z := Lib.hid (Z.out.next hb6 Z.out.lt); replace IR := Lib.hid (IR.out.below hb6 (Nat.le_refl _)); replace IS := Lib.hid (IS.out.below hb6 (Nat.le_refl _)); replace B := Lib.hid (B.out.trans (hb6.mono B.out.size)); clear hb6; have z0_6 := Z.out.out.at0; have z1_6 := Z.out.out.at1)
        refine hK.out _ _ (by first | exact ⟨z0_6, z1_6⟩ | exact ⟨z0_5, z1_5⟩ | exact ⟨z0, z1⟩ | go_keep) (fun hHeld => ?_)
        clear hK K
        try simp only [List.getElem_toArray, List.getElem_cons_zero, List.getElem_cons_succ, Act.put, List.setIfInBounds_toArray, List.set_cons_zero, List.set_cons_succ]
        refine wpAnyH_take (i := 4) (v := ?_) rfl (by kernel_rfl) (by kernel_rfl) (by kernel_rfl) (fun _ _ _ h => h) (Or.inl ⟨by rfl, ?_⟩) (by assumption) ?_
        rotate_left
        · (intro w hSw; (try dsimp only at hSw); go_simp; try with_reducible rfl)
        try simp only [List.getElem_toArray, List.getElem_cons_zero, List.getElem_cons_succ, Act.put, List.setIfInBounds_toArray, List.set_cons_zero, List.set_cons_succ]
        refine wpAnyH_take (i := 5) (v := ?_) rfl (by kernel_rfl) (by kernel_rfl) (by kernel_rfl) (fun _ _ _ h => h) (Or.inl ⟨by rfl, ?_⟩) (by assumption) ?_
        rotate_left
        · (intro w hSw; (try dsimp only at hSw); go_simp; try with_reducible rfl)
        try simp only [List.getElem_toArray, List.getElem_cons_zero, List.getElem_cons_succ, Act.put, List.setIfInBounds_toArray, List.set_cons_zero, List.set_cons_succ]
        refine wpAnyH_take (i := 6) (v := ?_) rfl (by kernel_rfl) (by kernel_rfl) (by kernel_rfl) (fun _ _ _ h => h) (Or.inl ⟨by rfl, ?_⟩) (by assumption) ?_
        rotate_left
        · (intro w hSw; (try dsimp only at hSw); go_simp; try with_reducible rfl)
        try simp only [List.getElem_toArray, List.getElem_cons_zero, List.getElem_cons_succ, Act.put, List.setIfInBounds_toArray, List.set_cons_zero, List.set_cons_succ]
        refine wpAnyH_take (i := 7) (v := ?_) rfl (by kernel_rfl) (by kernel_rfl) (by kernel_rfl) (fun _ _ _ h => h) (Or.inl ⟨by rfl, ?_⟩) (by assumption) ?_
        rotate_left
        · (intro w hSw; (try dsimp only at hSw); go_simp; try with_reducible rfl)
        try simp only [List.getElem_toArray, List.getElem_cons_zero, List.getElem_cons_succ, Act.put, List.setIfInBounds_toArray, List.set_cons_zero, List.set_cons_succ]
        refine wpAnyH_take (i := 8) (v := ?_) rfl (by kernel_rfl) (by kernel_rfl) (by kernel_rfl) (fun _ _ _ h => h) (Or.inl ⟨by rfl, ?_⟩) (by assumption) ?_
        rotate_left
        · (intro w hSw; (try dsimp only at hSw); go_simp; try with_reducible rfl)
        try simp only [List.getElem_toArray, List.getElem_cons_zero, List.getElem_cons_succ, Act.put, List.setIfInBounds_toArray, List.set_cons_zero, List.set_cons_succ]
        refine wpAnyH_take (i := 9) (v := ?_) rfl (by kernel_rfl) (by kernel_rfl) (by kernel_rfl) (fun _ _ _ h => h) (Or.inl ⟨by rfl, ?_⟩) (by assumption) ?_
        rotate_left
        · (intro w hSw; (try dsimp only at hSw); go_simp; try with_reducible rfl)
        try simp only [List.getElem_toArray, List.getElem_cons_zero, List.getElem_cons_succ, Act.put, List.setIfInBounds_toArray, List.set_cons_zero, List.set_cons_succ]
        refine wpAnyH_take (i := 10) (v := ?_) rfl (by kernel_rfl) (by kernel_rfl) (by kernel_rfl) (fun _ _ _ h => h) (Or.inl ⟨by rfl, ?_⟩) (by assumption) ?_
        rotate_left
        · (intro w hSw; (try dsimp only at hSw); go_simp; try with_reducible rfl)
        try simp only [List.getElem_toArray, List.getElem_cons_zero, List.getElem_cons_succ, Act.put, List.setIfInBounds_toArray, List.set_cons_zero, List.set_cons_succ]
        refine wpAnyH_take (i := 11) (v := ?_) rfl (by kernel_rfl) (by kernel_rfl) (by kernel_rfl) (fun _ _ _ h => h) (Or.inl ⟨by rfl, ?_⟩) (by assumption) ?_
        rotate_left
        · (intro w hSw; (try dsimp only at hSw); go_simp; try with_reducible rfl)
        try simp only [List.getElem_toArray, List.getElem_cons_zero, List.getElem_cons_succ, Act.put, List.setIfInBounds_toArray, List.set_cons_zero, List.set_cons_succ]
        refine wpAnyH_take (i := 12) (v := ?_) rfl (by kernel_rfl) (by kernel_rfl) (by kernel_rfl) (fun _ _ _ h => h) (Or.inl ⟨by rfl, ?_⟩) (by assumption) ?_
        rotate_left
        · (intro w hSw; (try dsimp only at hSw); go_simp; try with_reducible rfl)
        try simp only [List.getElem_toArray, List.getElem_cons_zero, List.getElem_cons_succ, Act.put, List.setIfInBounds_toArray, List.set_cons_zero, List.set_cons_succ]
        refine wpAnyH_done (by kernel_rfl) ?_ _
        have z0 := Z.out.out.at0
        have z1 := Z.out.out.at1
        go_wp2_with fail
        clear z0 z1
        refine (HL.out _ _ IR.out.rd (by first | exact HSW.out.next B.out | exact (show SW (World.drew _) from HSW.out.next B.out) | exact HSW.out.next (B.out.trans ((Below.refl _ _).drew)))).mono ?_
        rintro e w7 ⟨rfl, hb7⟩
        have hz7 := hb7.size
        replace Z := Lib.hid (Z.out.next hb7 Z.out.lt)
        replace IR := Lib.hid (IR.out.below hb7 (Nat.le_refl _))
        replace IS := Lib.hid (IS.out.below hb7 (Nat.le_refl _))
        replace B := Lib.hid (B.out.trans (hb7.mono B.out.size))
        clear hb7
        have z0 := Z.out.out.at0
        have z1 := Z.out.out.at1
        go_wp2_with fail
        clear z0 z1
        refine (HQ.out _ _ IR.out.rd (by first | exact HSW.out.next B.out | exact (show SW (World.drew _) from HSW.out.next B.out) | exact HSW.out.next (B.out.trans ((Below.refl _ _).drew)))).mono ?_
        rintro e w8 ⟨rfl, hb8⟩
        have hz8 := hb8.size
        replace Z := Lib.hid (Z.out.next hb8 Z.out.lt)
        replace IR := Lib.hid (IR.out.below hb8 (Nat.le_refl _))
        replace IS := Lib.hid (IS.out.below hb8 (Nat.le_refl _))
        replace B := Lib.hid (B.out.trans (hb8.mono B.out.size))
        clear hb8
        have z0 := Z.out.out.at0
        have z1 := Z.out.out.at1
        go_wp2_with fail
        clear z0 z1
        refine (HP1.out _).mono ?_
        rintro e w9 ⟨rfl, hw9⟩
        subst w9
        have z0 := Z.out.out.at0
        have z1 := Z.out.out.at1
        go_wp2_with fail
        clear z0 z1
        refine (HP2.out _).mono ?_
        rintro e w9 ⟨rfl, hw9⟩
        subst w9
        have z0 := Z.out.out.at0
        have z1 := Z.out.out.at1
        go_wp2_with fail
        clear z0 z1
        refine (HP3.out _).mono ?_
        rintro e w9 ⟨rfl, hw9⟩
        subst w9
        have z0 := Z.out.out.at0
        have z1 := Z.out.out.at1
        go_wp2_with fail
        clear z0 z1
        refine (HVC.out _ _ IR.out.rd).mono ?_
        rintro e w9 ⟨rfl, hb9⟩
        have hz9 := hb9.size
        replace Z := Lib.hid (Z.out.next hb9 Z.out.lt)
        replace IR := Lib.hid (IR.out.below hb9 (Nat.le_refl _))
        replace IS := Lib.hid (IS.out.below hb9 (Nat.le_refl _))
        replace B := Lib.hid (B.out.trans (hb9.mono B.out.size))
        clear hb9
        have z0 := Z.out.out.at0
        have z1 := Z.out.out.at1
        go_wp2_with fail
        clear z0 z1
        refine (HM.out _ _ IR.out.rd).mono ?_
        rintro e w10 ⟨rfl, hb10⟩
        have hz10 := hb10.size
        replace Z := Lib.hid (Z.out.next hb10 Z.out.lt)
        replace IR := Lib.hid (IR.out.below hb10 (Nat.le_refl _))
        replace IS := Lib.hid (IS.out.below hb10 (Nat.le_refl _))
        replace B := Lib.hid (B.out.trans (hb10.mono B.out.size))
        clear hb10
        have z0 := Z.out.out.at0
        have z1 := Z.out.out.at1
        go_wp2_with fail
        clear z0 z1
        go_ret
        exact ⟨rfl, by first | exact B.out | exact B.out.drew⟩
      · have hq0 : ¬ q = 0 := fun h => hm0 (g8.1 h)
        have hqI : ((q : Int) == 0) = false := by simpa using hq0
        have h9 := g9 hm0
        have HP4 := Lib.hid (fun w => lawsPower ((q : Int) - 1) w (by omega) (by omega))
        rw [show ((q : Int) - 1).toNat = q - 1 by omega, show (2 : Int) ^ (q - 1) = ((2 ^ (q - 1) : Nat) : Int) by simp] at HP4
        generalize 2 ^ (q - 1) = p4 at *
        have d4 : decide ((p4 : Int) < (m : Int) + 1) = true := decide_eq_true (by omega)
        have k4 : decide (p4 < m + 1) = true := decide_eq_true h9
        have hml : ¬ (m : Int) < 1 := by omega
        have hmd : decide ((m : Int) < 1) = false := decide_eq_false hml
        rw [show min (m : Int) 1 = 1 by omega] at HVC
        clear g8 g9 hp3 hm0
        by_cases hm1 : m = 1
        · have hmg : ¬ (1 : Int) < (m : Int) := by omega
          have hmd2 : decide ((1 : Int) < (m : Int)) = false := decide_eq_false hmg
          have he1 : ((1 : Int) == (m : Int)) = true := by rw [hm1]; rfl
          clear hm1
          go_wp2_with fail
          refine (HI.out _).mono ?_
          rintro e w3 ⟨a3, c3, rfl, hin3, hb3⟩
          rw [HLen.out] at hin3 ⊢
          have hz3 := hb3.size
          replace B := Lib.hid (B.out.trans (hb3.mono B.out.size))
          have IR := Lib.hid (hin3.mono (Nat.zero_le _))
          clear hin3 hb3
          have Z := Lib.hid (Bx.new (m : Int) (.slice a3 (m + 1) c3) w3)
          replace IR := Lib.hid (IR.out.alloc (Obj.cells #[.int .i64 (m : Int), .slice a3 (m + 1) c3] 25))
          replace B := Lib.hid (B.out.alloc B.out.size (Obj.cells #[.int .i64 (m : Int), .slice a3 (m + 1) c3] 25))
          go_wp2_with fail
          generalize (w3.alloc (Obj.cells #[.int .i64 (m : Int), .slice a3 (m + 1) c3] 25)) = w4 at *
          generalize ho3 : w3.heap.size = o3 at *
          have z0 := Z.out.out.at0
          have z1 := Z.out.out.at1
          go_wp2_with fail
          refine wp_region_held_drew (S := fun w' => w'.cell? ⟨o3, 0, none⟩ = some (.int .i64 (m : Int)) ∧ w'.cell? ⟨o3, 1, none⟩ = some (.slice a3 (m + 1) c3)) (by kernel_rfl) (by first | exact ⟨z0, z1⟩ | go_keep) (fun hHeld => ?_)
          refine wpAnyH_take (i := 0) (v := ?_) rfl (by kernel_rfl) (by kernel_rfl) (by kernel_rfl) (fun _ _ _ h => h) (Or.inl ⟨by rfl, ?_⟩) (by assumption) ?_
          rotate_left
          · (intro w hSw; (try dsimp only at hSw); go_simp; try with_reducible rfl)
          try simp only [List.getElem_toArray, List.getElem_cons_zero, Act.put, List.setIfInBounds_toArray, List.set_cons_zero, List.set_cons_succ]
          refine wpAnyH_take (i := 1) (v := ?_) rfl (by kernel_rfl) (by kernel_rfl) (by kernel_rfl) (fun _ _ _ h => h) (Or.inl ⟨by rfl, ?_⟩) (by assumption) ?_
          rotate_left
          · (intro w hSw; (try dsimp only at hSw); go_simp; try with_reducible rfl)
          try simp only [List.getElem_toArray, List.getElem_cons_zero, List.getElem_cons_succ, Act.put, List.setIfInBounds_toArray, List.set_cons_zero, List.set_cons_succ]
          refine wpAnyH_ready (rs := [2]) (by kernel_rfl) (by simp) ?_
          refine AllReadyH.cons rfl (fun K hK => ?_) AllReadyH.nil
          try simp only [List.getElem_toArray]
          go_simp
          (go_at_call 35; refine (HS.out _).mono ?_; rintro e w5 ⟨a5, c5, rfl, hin5, hbd⟩; rw [HLen.out] at hin5 ⊢; have hb5 : Below w4.heap.size w4 w5 := (by first | exact hbd | exact ⟨hbd.os, hbd.tape, hbd.output, hbd.size, hbd.block⟩); clear hbd; have hz5 := hb5.size; replace Z := Lib.hid (Z.out.next hb5 Z.out.lt); replace IR := Lib.hid (IR.out.below hb5 (Nat.le_refl _)); replace B := Lib.hid (B.out.trans (hb5.mono B.out.size)); have IS := Lib.hid (hin5.mono (Nat.zero_le _)); clear hin5; clear hb5; have z0_5 := Z.out.out.at0; have z1_5 := Z.out.out.at1)
          refine hK.out _ _ (by first | exact ⟨z0_5, z1_5⟩ | exact ⟨z0, z1⟩ | go_keep) (fun hHeld => ?_)
          clear hK K
          try simp only [List.getElem_toArray, List.getElem_cons_zero, List.getElem_cons_succ, Act.put, List.setIfInBounds_toArray, List.set_cons_zero, List.set_cons_succ]
          refine wpAnyH_ready (rs := [3]) (by kernel_rfl) (by simp) ?_
          refine AllReadyH.cons rfl (fun K hK => ?_) AllReadyH.nil
          try simp only [List.getElem_toArray]
          go_simp
          (go_at_call 13; refine (lawsEqualClass _ _ _ _ _ _ _ _ (by first | exact IR.out.rd | exact IR.out.rd.below (k := w5.heap.size) ((Below.refl _ _).drew) (Nat.le_refl _)) (by first | exact IS.out.rd | exact IS.out.rd.below (k := w5.heap.size) ((Below.refl _ _).drew) (Nat.le_refl _))).mono ?_; rintro e w6 ⟨rfl, hbd⟩; have hb6 : Below w5.heap.size w5 w6 := (by first | exact hbd | exact ⟨hbd.os, hbd.tape, hbd.output, hbd.size, hbd.block⟩); clear hbd; have hz6 := hb6.size; replace Z := Lib.hid (Z.out.next hb6 Z.out.lt); replace IR := Lib.hid (IR.out.below hb6 (Nat.le_refl _)); replace IS := Lib.hid (IS.out.below hb6 (Nat.le_refl _)); replace B := Lib.hid (B.out.trans (hb6.mono B.out.size)); clear hb6; have z0_6 := Z.out.out.at0; have z1_6 := Z.out.out.at1)
          refine hK.out _ _ (by first | exact ⟨z0_6, z1_6⟩ | exact ⟨z0_5, z1_5⟩ | exact ⟨z0, z1⟩ | go_keep) (fun hHeld => ?_)
          clear hK K
          try simp only [List.getElem_toArray, List.getElem_cons_zero, List.getElem_cons_succ, Act.put, List.setIfInBounds_toArray, List.set_cons_zero, List.set_cons_succ]
          refine wpAnyH_take (i := 4) (v := ?_) rfl (by kernel_rfl) (by kernel_rfl) (by kernel_rfl) (fun _ _ _ h => h) (Or.inl ⟨by rfl, ?_⟩) (by assumption) ?_
          rotate_left
          · (intro w hSw; (try dsimp only at hSw); go_simp; try with_reducible rfl)
          try simp only [List.getElem_toArray, List.getElem_cons_zero, List.getElem_cons_succ, Act.put, List.setIfInBounds_toArray, List.set_cons_zero, List.set_cons_succ]
          refine wpAnyH_take (i := 5) (v := ?_) rfl (by kernel_rfl) (by kernel_rfl) (by kernel_rfl) (fun _ _ _ h => h) (Or.inl ⟨by rfl, ?_⟩) (by assumption) ?_
          rotate_left
          · (intro w hSw; (try dsimp only at hSw); go_simp; try with_reducible rfl)
          try simp only [List.getElem_toArray, List.getElem_cons_zero, List.getElem_cons_succ, Act.put, List.setIfInBounds_toArray, List.set_cons_zero, List.set_cons_succ]
          refine wpAnyH_take (i := 6) (v := ?_) rfl (by kernel_rfl) (by kernel_rfl) (by kernel_rfl) (fun _ _ _ h => h) (Or.inl ⟨by rfl, ?_⟩) (by assumption) ?_
          rotate_left
          · (intro w hSw; (try dsimp only at hSw); go_simp; try with_reducible rfl)
          try simp only [List.getElem_toArray, List.getElem_cons_zero, List.getElem_cons_succ, Act.put, List.setIfInBounds_toArray, List.set_cons_zero, List.set_cons_succ]
          refine wpAnyH_take (i := 7) (v := ?_) rfl (by kernel_rfl) (by kernel_rfl) (by kernel_rfl) (fun _ _ _ h => h) (Or.inl ⟨by rfl, ?_⟩) (by assumption) ?_
          rotate_left
          · (intro w hSw; (try dsimp only at hSw); go_simp; try with_reducible rfl)
          try simp only [List.getElem_toArray, List.getElem_cons_zero, List.getElem_cons_succ, Act.put, List.setIfInBounds_toArray, List.set_cons_zero, List.set_cons_succ]
          refine wpAnyH_take (i := 8) (v := ?_) rfl (by kernel_rfl) (by kernel_rfl) (by kernel_rfl) (fun _ _ _ h => h) (Or.inl ⟨by rfl, ?_⟩) (by assumption) ?_
          rotate_left
          · (intro w hSw; (try dsimp only at hSw); go_simp; try with_reducible rfl)
          try simp only [List.getElem_toArray, List.getElem_cons_zero, List.getElem_cons_succ, Act.put, List.setIfInBounds_toArray, List.set_cons_zero, List.set_cons_succ]
          refine wpAnyH_take (i := 9) (v := ?_) rfl (by kernel_rfl) (by kernel_rfl) (by kernel_rfl) (fun _ _ _ h => h) (Or.inl ⟨by rfl, ?_⟩) (by assumption) ?_
          rotate_left
          · (intro w hSw; (try dsimp only at hSw); go_simp; try with_reducible rfl)
          try simp only [List.getElem_toArray, List.getElem_cons_zero, List.getElem_cons_succ, Act.put, List.setIfInBounds_toArray, List.set_cons_zero, List.set_cons_succ]
          refine wpAnyH_take (i := 10) (v := ?_) rfl (by kernel_rfl) (by kernel_rfl) (by kernel_rfl) (fun _ _ _ h => h) (Or.inl ⟨by rfl, ?_⟩) (by assumption) ?_
          rotate_left
          · (intro w hSw; (try dsimp only at hSw); go_simp; try with_reducible rfl)
          try simp only [List.getElem_toArray, List.getElem_cons_zero, List.getElem_cons_succ, Act.put, List.setIfInBounds_toArray, List.set_cons_zero, List.set_cons_succ]
          refine wpAnyH_take (i := 11) (v := ?_) rfl (by kernel_rfl) (by kernel_rfl) (by kernel_rfl) (fun _ _ _ h => h) (Or.inl ⟨by rfl, ?_⟩) (by assumption) ?_
          rotate_left
          · (intro w hSw; (try dsimp only at hSw); go_simp; try with_reducible rfl)
          try simp only [List.getElem_toArray, List.getElem_cons_zero, List.getElem_cons_succ, Act.put, List.setIfInBounds_toArray, List.set_cons_zero, List.set_cons_succ]
          refine wpAnyH_take (i := 12) (v := ?_) rfl (by kernel_rfl) (by kernel_rfl) (by kernel_rfl) (fun _ _ _ h => h) (Or.inl ⟨by rfl, ?_⟩) (by assumption) ?_
          rotate_left
          · (intro w hSw; (try dsimp only at hSw); go_simp; try with_reducible rfl)
          try simp only [List.getElem_toArray, List.getElem_cons_zero, List.getElem_cons_succ, Act.put, List.setIfInBounds_toArray, List.set_cons_zero, List.set_cons_succ]
          refine wpAnyH_done (by kernel_rfl) ?_ _
          have z0 := Z.out.out.at0
          have z1 := Z.out.out.at1
          go_wp2_with fail
          clear z0 z1
          refine (HL.out _ _ IR.out.rd (by first | exact HSW.out.next B.out | exact (show SW (World.drew _) from HSW.out.next B.out) | exact HSW.out.next (B.out.trans ((Below.refl _ _).drew)))).mono ?_
          rintro e w7 ⟨rfl, hb7⟩
          have hz7 := hb7.size
          replace Z := Lib.hid (Z.out.next hb7 Z.out.lt)
          replace IR := Lib.hid (IR.out.below hb7 (Nat.le_refl _))
          replace IS := Lib.hid (IS.out.below hb7 (Nat.le_refl _))
          replace B := Lib.hid (B.out.trans (hb7.mono B.out.size))
          clear hb7
          have z0 := Z.out.out.at0
          have z1 := Z.out.out.at1
          go_wp2_with fail
          clear z0 z1
          refine (HQ.out _ _ IR.out.rd (by first | exact HSW.out.next B.out | exact (show SW (World.drew _) from HSW.out.next B.out) | exact HSW.out.next (B.out.trans ((Below.refl _ _).drew)))).mono ?_
          rintro e w8 ⟨rfl, hb8⟩
          have hz8 := hb8.size
          replace Z := Lib.hid (Z.out.next hb8 Z.out.lt)
          replace IR := Lib.hid (IR.out.below hb8 (Nat.le_refl _))
          replace IS := Lib.hid (IS.out.below hb8 (Nat.le_refl _))
          replace B := Lib.hid (B.out.trans (hb8.mono B.out.size))
          clear hb8
          have z0 := Z.out.out.at0
          have z1 := Z.out.out.at1
          go_wp2_with fail
          clear z0 z1
          refine (HP1.out _).mono ?_
          rintro e w9 ⟨rfl, hw9⟩
          subst w9
          have z0 := Z.out.out.at0
          have z1 := Z.out.out.at1
          go_wp2_with fail
          clear z0 z1
          refine (HP2.out _).mono ?_
          rintro e w9 ⟨rfl, hw9⟩
          subst w9
          have z0 := Z.out.out.at0
          have z1 := Z.out.out.at1
          go_wp2_with fail
          clear z0 z1
          refine (HP3.out _).mono ?_
          rintro e w9 ⟨rfl, hw9⟩
          subst w9
          have z0 := Z.out.out.at0
          have z1 := Z.out.out.at1
          go_wp2_with fail
          clear z0 z1
          refine (HP4.out _).mono ?_
          rintro e w9 ⟨rfl, hw9⟩
          subst w9
          have z0 := Z.out.out.at0
          have z1 := Z.out.out.at1
          go_wp2_with fail
          clear z0 z1
          refine (HVC.out _ _ IR.out.rd).mono ?_
          rintro e w9 ⟨rfl, hb9⟩
          have hz9 := hb9.size
          replace Z := Lib.hid (Z.out.next hb9 Z.out.lt)
          replace IR := Lib.hid (IR.out.below hb9 (Nat.le_refl _))
          replace IS := Lib.hid (IS.out.below hb9 (Nat.le_refl _))
          replace B := Lib.hid (B.out.trans (hb9.mono B.out.size))
          clear hb9
          have z0 := Z.out.out.at0
          have z1 := Z.out.out.at1
          go_wp2_with fail
          clear z0 z1
          refine (HM.out _ _ IR.out.rd).mono ?_
          rintro e w10 ⟨rfl, hb10⟩
          have hz10 := hb10.size
          replace Z := Lib.hid (Z.out.next hb10 Z.out.lt)
          replace IR := Lib.hid (IR.out.below hb10 (Nat.le_refl _))
          replace IS := Lib.hid (IS.out.below hb10 (Nat.le_refl _))
          replace B := Lib.hid (B.out.trans (hb10.mono B.out.size))
          clear hb10
          have z0 := Z.out.out.at0
          have z1 := Z.out.out.at1
          go_wp2_with fail
          clear z0 z1
          go_ret
          exact ⟨rfl, by first | exact B.out | exact B.out.drew⟩
        · have hmg : (1 : Int) < (m : Int) := by omega
          have hmd2 : decide ((1 : Int) < (m : Int)) = true := decide_eq_true hmg
          have hmg2 : 1 < m := by omega
          clear hm1
          go_wp2_with fail
          refine (HI.out _).mono ?_
          rintro e w3 ⟨a3, c3, rfl, hin3, hb3⟩
          rw [HLen.out] at hin3 ⊢
          have hz3 := hb3.size
          replace B := Lib.hid (B.out.trans (hb3.mono B.out.size))
          have IR := Lib.hid (hin3.mono (Nat.zero_le _))
          clear hin3 hb3
          have Z := Lib.hid (Bx.new (m : Int) (.slice a3 (m + 1) c3) w3)
          replace IR := Lib.hid (IR.out.alloc (Obj.cells #[.int .i64 (m : Int), .slice a3 (m + 1) c3] 25))
          replace B := Lib.hid (B.out.alloc B.out.size (Obj.cells #[.int .i64 (m : Int), .slice a3 (m + 1) c3] 25))
          go_wp2_with fail
          generalize (w3.alloc (Obj.cells #[.int .i64 (m : Int), .slice a3 (m + 1) c3] 25)) = w4 at *
          generalize ho3 : w3.heap.size = o3 at *
          have z0 := Z.out.out.at0
          have z1 := Z.out.out.at1
          go_wp2_with fail
          refine wp_region_held_drew (S := fun w' => w'.cell? ⟨o3, 0, none⟩ = some (.int .i64 (m : Int)) ∧ w'.cell? ⟨o3, 1, none⟩ = some (.slice a3 (m + 1) c3)) (by kernel_rfl) (by first | exact ⟨z0, z1⟩ | go_keep) (fun hHeld => ?_)
          refine wpAnyH_take (i := 0) (v := ?_) rfl (by kernel_rfl) (by kernel_rfl) (by kernel_rfl) (fun _ _ _ h => h) (Or.inl ⟨by rfl, ?_⟩) (by assumption) ?_
          rotate_left
          · (intro w hSw; (try dsimp only at hSw); go_simp; try with_reducible rfl)
          try simp only [List.getElem_toArray, List.getElem_cons_zero, Act.put, List.setIfInBounds_toArray, List.set_cons_zero, List.set_cons_succ]
          refine wpAnyH_take (i := 1) (v := ?_) rfl (by kernel_rfl) (by kernel_rfl) (by kernel_rfl) (fun _ _ _ h => h) (Or.inl ⟨by rfl, ?_⟩) (by assumption) ?_
          rotate_left
          · (intro w hSw; (try dsimp only at hSw); go_simp; try with_reducible rfl)
          try simp only [List.getElem_toArray, List.getElem_cons_zero, List.getElem_cons_succ, Act.put, List.setIfInBounds_toArray, List.set_cons_zero, List.set_cons_succ]
          refine wpAnyH_ready (rs := [2]) (by kernel_rfl) (by simp) ?_
          refine AllReadyH.cons rfl (fun K hK => ?_) AllReadyH.nil
          try simp only [List.getElem_toArray]
          go_simp
          (go_at_call 35; refine (HS.out _).mono ?_; rintro e w5 ⟨a5, c5, rfl, hin5, hbd⟩; rw [HLen.out] at hin5 ⊢; have hb5 : Below w4.heap.size w4 w5 := (by first | exact hbd | exact ⟨hbd.os, hbd.tape, hbd.output, hbd.size, hbd.block⟩); clear hbd; have hz5 := hb5.size; replace Z := Lib.hid (Z.out.next hb5 Z.out.lt); replace IR := Lib.hid (IR.out.below hb5 (Nat.le_refl _)); replace B := Lib.hid (B.out.trans (hb5.mono B.out.size)); have IS := Lib.hid (hin5.mono (Nat.zero_le _)); clear hin5; clear hb5; have z0_5 := Z.out.out.at0; have z1_5 := Z.out.out.at1)
          refine hK.out _ _ (by first | exact ⟨z0_5, z1_5⟩ | exact ⟨z0, z1⟩ | go_keep) (fun hHeld => ?_)
          clear hK K
          try simp only [List.getElem_toArray, List.getElem_cons_zero, List.getElem_cons_succ, Act.put, List.setIfInBounds_toArray, List.set_cons_zero, List.set_cons_succ]
          refine wpAnyH_ready (rs := [3]) (by kernel_rfl) (by simp) ?_
          refine AllReadyH.cons rfl (fun K hK => ?_) AllReadyH.nil
          try simp only [List.getElem_toArray]
          go_simp
          (go_at_call 13; refine (lawsEqualClass _ _ _ _ _ _ _ _ (by first | exact IR.out.rd | exact IR.out.rd.below (k := w5.heap.size) ((Below.refl _ _).drew) (Nat.le_refl _)) (by first | exact IS.out.rd | exact IS.out.rd.below (k := w5.heap.size) ((Below.refl _ _).drew) (Nat.le_refl _))).mono ?_; rintro e w6 ⟨rfl, hbd⟩; have hb6 : Below w5.heap.size w5 w6 := (by first | exact hbd | exact ⟨hbd.os, hbd.tape, hbd.output, hbd.size, hbd.block⟩); clear hbd; have hz6 := hb6.size; replace Z := Lib.hid (Z.out.next hb6 Z.out.lt); replace IR := Lib.hid (IR.out.below hb6 (Nat.le_refl _)); replace IS := Lib.hid (IS.out.below hb6 (Nat.le_refl _)); replace B := Lib.hid (B.out.trans (hb6.mono B.out.size)); clear hb6; have z0_6 := Z.out.out.at0; have z1_6 := Z.out.out.at1)
          refine hK.out _ _ (by first | exact ⟨z0_6, z1_6⟩ | exact ⟨z0_5, z1_5⟩ | exact ⟨z0, z1⟩ | go_keep) (fun hHeld => ?_)
          clear hK K
          try simp only [List.getElem_toArray, List.getElem_cons_zero, List.getElem_cons_succ, Act.put, List.setIfInBounds_toArray, List.set_cons_zero, List.set_cons_succ]
          refine wpAnyH_take (i := 4) (v := ?_) rfl (by kernel_rfl) (by kernel_rfl) (by kernel_rfl) (fun _ _ _ h => h) (Or.inl ⟨by rfl, ?_⟩) (by assumption) ?_
          rotate_left
          · (intro w hSw; (try dsimp only at hSw); go_simp; try with_reducible rfl)
          try simp only [List.getElem_toArray, List.getElem_cons_zero, List.getElem_cons_succ, Act.put, List.setIfInBounds_toArray, List.set_cons_zero, List.set_cons_succ]
          refine wpAnyH_take (i := 5) (v := ?_) rfl (by kernel_rfl) (by kernel_rfl) (by kernel_rfl) (fun _ _ _ h => h) (Or.inl ⟨by rfl, ?_⟩) (by assumption) ?_
          rotate_left
          · (intro w hSw; (try dsimp only at hSw); go_simp; try with_reducible rfl)
          try simp only [List.getElem_toArray, List.getElem_cons_zero, List.getElem_cons_succ, Act.put, List.setIfInBounds_toArray, List.set_cons_zero, List.set_cons_succ]
          refine wpAnyH_take (i := 6) (v := ?_) rfl (by kernel_rfl) (by kernel_rfl) (by kernel_rfl) (fun _ _ _ h => h) (Or.inl ⟨by rfl, ?_⟩) (by assumption) ?_
          rotate_left
          · (intro w hSw; (try dsimp only at hSw); go_simp; try with_reducible rfl)
          try simp only [List.getElem_toArray, List.getElem_cons_zero, List.getElem_cons_succ, Act.put, List.setIfInBounds_toArray, List.set_cons_zero, List.set_cons_succ]
          refine wpAnyH_take (i := 7) (v := ?_) rfl (by kernel_rfl) (by kernel_rfl) (by kernel_rfl) (fun _ _ _ h => h) (Or.inl ⟨by rfl, ?_⟩) (by assumption) ?_
          rotate_left
          · (intro w hSw; (try dsimp only at hSw); go_simp; try with_reducible rfl)
          try simp only [List.getElem_toArray, List.getElem_cons_zero, List.getElem_cons_succ, Act.put, List.setIfInBounds_toArray, List.set_cons_zero, List.set_cons_succ]
          refine wpAnyH_take (i := 8) (v := ?_) rfl (by kernel_rfl) (by kernel_rfl) (by kernel_rfl) (fun _ _ _ h => h) (Or.inl ⟨by rfl, ?_⟩) (by assumption) ?_
          rotate_left
          · (intro w hSw; (try dsimp only at hSw); go_simp; try with_reducible rfl)
          try simp only [List.getElem_toArray, List.getElem_cons_zero, List.getElem_cons_succ, Act.put, List.setIfInBounds_toArray, List.set_cons_zero, List.set_cons_succ]
          refine wpAnyH_take (i := 9) (v := ?_) rfl (by kernel_rfl) (by kernel_rfl) (by kernel_rfl) (fun _ _ _ h => h) (Or.inl ⟨by rfl, ?_⟩) (by assumption) ?_
          rotate_left
          · (intro w hSw; (try dsimp only at hSw); go_simp; try with_reducible rfl)
          try simp only [List.getElem_toArray, List.getElem_cons_zero, List.getElem_cons_succ, Act.put, List.setIfInBounds_toArray, List.set_cons_zero, List.set_cons_succ]
          refine wpAnyH_take (i := 10) (v := ?_) rfl (by kernel_rfl) (by kernel_rfl) (by kernel_rfl) (fun _ _ _ h => h) (Or.inl ⟨by rfl, ?_⟩) (by assumption) ?_
          rotate_left
          · (intro w hSw; (try dsimp only at hSw); go_simp; try with_reducible rfl)
          try simp only [List.getElem_toArray, List.getElem_cons_zero, List.getElem_cons_succ, Act.put, List.setIfInBounds_toArray, List.set_cons_zero, List.set_cons_succ]
          refine wpAnyH_take (i := 11) (v := ?_) rfl (by kernel_rfl) (by kernel_rfl) (by kernel_rfl) (fun _ _ _ h => h) (Or.inl ⟨by rfl, ?_⟩) (by assumption) ?_
          rotate_left
          · (intro w hSw; (try dsimp only at hSw); go_simp; try with_reducible rfl)
          try simp only [List.getElem_toArray, List.getElem_cons_zero, List.getElem_cons_succ, Act.put, List.setIfInBounds_toArray, List.set_cons_zero, List.set_cons_succ]
          refine wpAnyH_take (i := 12) (v := ?_) rfl (by kernel_rfl) (by kernel_rfl) (by kernel_rfl) (fun _ _ _ h => h) (Or.inl ⟨by rfl, ?_⟩) (by assumption) ?_
          rotate_left
          · (intro w hSw; (try dsimp only at hSw); go_simp; try with_reducible rfl)
          try simp only [List.getElem_toArray, List.getElem_cons_zero, List.getElem_cons_succ, Act.put, List.setIfInBounds_toArray, List.set_cons_zero, List.set_cons_succ]
          refine wpAnyH_done (by kernel_rfl) ?_ _
          have z0 := Z.out.out.at0
          have z1 := Z.out.out.at1
          go_wp2_with fail
          clear z0 z1
          refine (HL.out _ _ IR.out.rd (by first | exact HSW.out.next B.out | exact (show SW (World.drew _) from HSW.out.next B.out) | exact HSW.out.next (B.out.trans ((Below.refl _ _).drew)))).mono ?_
          rintro e w7 ⟨rfl, hb7⟩
          have hz7 := hb7.size
          replace Z := Lib.hid (Z.out.next hb7 Z.out.lt)
          replace IR := Lib.hid (IR.out.below hb7 (Nat.le_refl _))
          replace IS := Lib.hid (IS.out.below hb7 (Nat.le_refl _))
          replace B := Lib.hid (B.out.trans (hb7.mono B.out.size))
          clear hb7
          have z0 := Z.out.out.at0
          have z1 := Z.out.out.at1
          go_wp2_with fail
          clear z0 z1
          refine (HQ.out _ _ IR.out.rd (by first | exact HSW.out.next B.out | exact (show SW (World.drew _) from HSW.out.next B.out) | exact HSW.out.next (B.out.trans ((Below.refl _ _).drew)))).mono ?_
          rintro e w8 ⟨rfl, hb8⟩
          have hz8 := hb8.size
          replace Z := Lib.hid (Z.out.next hb8 Z.out.lt)
          replace IR := Lib.hid (IR.out.below hb8 (Nat.le_refl _))
          replace IS := Lib.hid (IS.out.below hb8 (Nat.le_refl _))
          replace B := Lib.hid (B.out.trans (hb8.mono B.out.size))
          clear hb8
          have z0 := Z.out.out.at0
          have z1 := Z.out.out.at1
          go_wp2_with fail
          clear z0 z1
          refine (HP1.out _).mono ?_
          rintro e w9 ⟨rfl, hw9⟩
          subst w9
          have z0 := Z.out.out.at0
          have z1 := Z.out.out.at1
          go_wp2_with fail
          clear z0 z1
          refine (HP2.out _).mono ?_
          rintro e w9 ⟨rfl, hw9⟩
          subst w9
          have z0 := Z.out.out.at0
          have z1 := Z.out.out.at1
          go_wp2_with fail
          clear z0 z1
          refine (HP3.out _).mono ?_
          rintro e w9 ⟨rfl, hw9⟩
          subst w9
          have z0 := Z.out.out.at0
          have z1 := Z.out.out.at1
          go_wp2_with fail
          clear z0 z1
          refine (HP4.out _).mono ?_
          rintro e w9 ⟨rfl, hw9⟩
          subst w9
          have z0 := Z.out.out.at0
          have z1 := Z.out.out.at1
          go_wp2_with fail
          clear z0 z1
          refine (HVC.out _ _ IR.out.rd).mono ?_
          rintro e w9 ⟨rfl, hb9⟩
          have hz9 := hb9.size
          replace Z := Lib.hid (Z.out.next hb9 Z.out.lt)
          replace IR := Lib.hid (IR.out.below hb9 (Nat.le_refl _))
          replace IS := Lib.hid (IS.out.below hb9 (Nat.le_refl _))
          replace B := Lib.hid (B.out.trans (hb9.mono B.out.size))
          clear hb9
          have z0 := Z.out.out.at0
          have z1 := Z.out.out.at1
          go_wp2_with fail
          clear z0 z1
          refine (HM.out _ _ IR.out.rd).mono ?_
          rintro e w10 ⟨rfl, hb10⟩
          have hz10 := hb10.size
          replace Z := Lib.hid (Z.out.next hb10 Z.out.lt)
          replace IR := Lib.hid (IR.out.below hb10 (Nat.le_refl _))
          replace IS := Lib.hid (IS.out.below hb10 (Nat.le_refl _))
          replace B := Lib.hid (B.out.trans (hb10.mono B.out.size))
          clear hb10
          have z0 := Z.out.out.at0
          have z1 := Z.out.out.at1
          go_wp2_with fail
          clear z0 z1
          go_ret
          exact ⟨rfl, by first | exact B.out | exact B.out.drew⟩
    · rw [show thN N = 0 by rw [thN, if_neg hv], show thL N = [] by rw [thL, if_neg hv]] at HI HS
      obtain ⟨RL, hRL⟩ : ∃ RL : List Int, RL = [] := ⟨_, rfl⟩
      rw [← hRL] at HI HS
      clear hRL
      by_cases hv0 : N < 0
      · have dv0 : decide (N < 0) = true := decide_eq_true hv0
        go_wp2_with fail
        refine (HI.out _).mono ?_
        rintro e w3 ⟨a3, c3, rfl, hin3, hb3⟩
        have hz3 := hb3.size
        replace B := Lib.hid (B.out.trans (hb3.mono B.out.size))
        have IR := Lib.hid (hin3.mono (Nat.zero_le _))
        clear hin3 hb3
        have Z := Lib.hid (Bx.new (0 : Int) (.slice a3 RL.length c3) w3)
        replace IR := Lib.hid (IR.out.alloc (Obj.cells #[.int .i64 (0 : Int), .slice a3 RL.length c3] 25))
        replace B := Lib.hid (B.out.alloc B.out.size (Obj.cells #[.int .i64 (0 : Int), .slice a3 RL.length c3] 25))
        go_wp2_with fail
        generalize (w3.alloc (Obj.cells #[.int .i64 (0 : Int), .slice a3 RL.length c3] 25)) = w4 at *
        generalize ho3 : w3.heap.size = o3 at *
        have z0 := Z.out.out.at0
        have z1 := Z.out.out.at1
        go_wp2_with fail
        refine wp_region_held_drew (S := fun w' => w'.cell? ⟨o3, 0, none⟩ = some (.int .i64 0) ∧ w'.cell? ⟨o3, 1, none⟩ = some (.slice a3 RL.length c3)) (by kernel_rfl) (by first | exact ⟨z0, z1⟩ | go_keep) (fun hHeld => ?_)
        refine wpAnyH_take (i := 0) (v := ?_) rfl (by kernel_rfl) (by kernel_rfl) (by kernel_rfl) (fun _ _ _ h => h) (Or.inl ⟨by rfl, ?_⟩) (by assumption) ?_
        rotate_left
        · (intro w hSw; (try dsimp only at hSw); go_simp; try with_reducible rfl)
        try simp only [List.getElem_toArray, List.getElem_cons_zero, Act.put, List.setIfInBounds_toArray, List.set_cons_zero, List.set_cons_succ]
        refine wpAnyH_take (i := 1) (v := ?_) rfl (by kernel_rfl) (by kernel_rfl) (by kernel_rfl) (fun _ _ _ h => h) (Or.inl ⟨by rfl, ?_⟩) (by assumption) ?_
        rotate_left
        · (intro w hSw; (try dsimp only at hSw); go_simp; try with_reducible rfl)
        try simp only [List.getElem_toArray, List.getElem_cons_zero, List.getElem_cons_succ, Act.put, List.setIfInBounds_toArray, List.set_cons_zero, List.set_cons_succ]
        refine wpAnyH_ready (rs := [2]) (by kernel_rfl) (by simp) ?_
        refine AllReadyH.cons rfl (fun K hK => ?_) AllReadyH.nil
        try simp only [List.getElem_toArray]
        go_simp
        (go_at_call 35; refine (HS.out _).mono ?_; rintro e w5 ⟨a5, c5, rfl, hin5, hbd⟩; have hb5 : Below w4.heap.size w4 w5 := (by first | exact hbd | exact ⟨hbd.os, hbd.tape, hbd.output, hbd.size, hbd.block⟩); clear hbd; have hz5 := hb5.size; replace Z := Lib.hid (Z.out.next hb5 Z.out.lt); replace IR := Lib.hid (IR.out.below hb5 (Nat.le_refl _)); replace B := Lib.hid (B.out.trans (hb5.mono B.out.size)); have IS := Lib.hid (hin5.mono (Nat.zero_le _)); clear hin5; clear hb5; have z0_5 := Z.out.out.at0; have z1_5 := Z.out.out.at1)
        refine hK.out _ _ (by first | exact ⟨z0_5, z1_5⟩ | exact ⟨z0, z1⟩ | go_keep) (fun hHeld => ?_)
        clear hK K
        try simp only [List.getElem_toArray, List.getElem_cons_zero, List.getElem_cons_succ, Act.put, List.setIfInBounds_toArray, List.set_cons_zero, List.set_cons_succ]
        refine wpAnyH_ready (rs := [3]) (by kernel_rfl) (by simp) ?_
        refine AllReadyH.cons rfl (fun K hK => ?_) AllReadyH.nil
        try simp only [List.getElem_toArray]
        go_simp
        (go_at_call 13; refine (lawsEqualClass _ _ _ _ _ _ _ _ (by first | exact IR.out.rd | exact IR.out.rd.below (k := w5.heap.size) ((Below.refl _ _).drew) (Nat.le_refl _)) (by first | exact IS.out.rd | exact IS.out.rd.below (k := w5.heap.size) ((Below.refl _ _).drew) (Nat.le_refl _))).mono ?_; rintro e w6 ⟨rfl, hbd⟩; have hb6 : Below w5.heap.size w5 w6 := (by first | exact hbd | exact ⟨hbd.os, hbd.tape, hbd.output, hbd.size, hbd.block⟩); clear hbd; have hz6 := hb6.size; replace Z := Lib.hid (Z.out.next hb6 Z.out.lt); replace IR := Lib.hid (IR.out.below hb6 (Nat.le_refl _)); replace IS := Lib.hid (IS.out.below hb6 (Nat.le_refl _)); replace B := Lib.hid (B.out.trans (hb6.mono B.out.size)); clear hb6; have z0_6 := Z.out.out.at0; have z1_6 := Z.out.out.at1)
        refine hK.out _ _ (by first | exact ⟨z0_6, z1_6⟩ | exact ⟨z0_5, z1_5⟩ | exact ⟨z0, z1⟩ | go_keep) (fun hHeld => ?_)
        clear hK K
        try simp only [List.getElem_toArray, List.getElem_cons_zero, List.getElem_cons_succ, Act.put, List.setIfInBounds_toArray, List.set_cons_zero, List.set_cons_succ]
        refine wpAnyH_take (i := 4) (v := ?_) rfl (by kernel_rfl) (by kernel_rfl) (by kernel_rfl) (fun _ _ _ h => h) (Or.inl ⟨by rfl, ?_⟩) (by assumption) ?_
        rotate_left
        · (intro w hSw; (try dsimp only at hSw); go_simp; try with_reducible rfl)
        try simp only [List.getElem_toArray, List.getElem_cons_zero, List.getElem_cons_succ, Act.put, List.setIfInBounds_toArray, List.set_cons_zero, List.set_cons_succ]
        refine wpAnyH_take (i := 5) (v := ?_) rfl (by kernel_rfl) (by kernel_rfl) (by kernel_rfl) (fun _ _ _ h => h) (Or.inl ⟨by rfl, ?_⟩) (by assumption) ?_
        rotate_left
        · (intro w hSw; (try dsimp only at hSw); go_simp; try with_reducible rfl)
        try simp only [List.getElem_toArray, List.getElem_cons_zero, List.getElem_cons_succ, Act.put, List.setIfInBounds_toArray, List.set_cons_zero, List.set_cons_succ]
        refine wpAnyH_take (i := 6) (v := ?_) rfl (by kernel_rfl) (by kernel_rfl) (by kernel_rfl) (fun _ _ _ h => h) (Or.inl ⟨by rfl, ?_⟩) (by assumption) ?_
        rotate_left
        · (intro w hSw; (try dsimp only at hSw); go_simp; try with_reducible rfl)
        try simp only [List.getElem_toArray, List.getElem_cons_zero, List.getElem_cons_succ, Act.put, List.setIfInBounds_toArray, List.set_cons_zero, List.set_cons_succ]
        refine wpAnyH_take (i := 7) (v := ?_) rfl (by kernel_rfl) (by kernel_rfl) (by kernel_rfl) (fun _ _ _ h => h) (Or.inl ⟨by rfl, ?_⟩) (by assumption) ?_
        rotate_left
        · (intro w hSw; (try dsimp only at hSw); go_simp; try with_reducible rfl)
        try simp only [List.getElem_toArray, List.getElem_cons_zero, List.getElem_cons_succ, Act.put, List.setIfInBounds_toArray, List.set_cons_zero, List.set_cons_succ]
        refine wpAnyH_take (i := 8) (v := ?_) rfl (by kernel_rfl) (by kernel_rfl) (by kernel_rfl) (fun _ _ _ h => h) (Or.inl ⟨by rfl, ?_⟩) (by assumption) ?_
        rotate_left
        · (intro w hSw; (try dsimp only at hSw); go_simp; try with_reducible rfl)
        try simp only [List.getElem_toArray, List.getElem_cons_zero, List.getElem_cons_succ, Act.put, List.setIfInBounds_toArray, List.set_cons_zero, List.set_cons_succ]
        refine wpAnyH_take (i := 9) (v := ?_) rfl (by kernel_rfl) (by kernel_rfl) (by kernel_rfl) (fun _ _ _ h => h) (Or.inl ⟨by rfl, ?_⟩) (by assumption) ?_
        rotate_left
        · (intro w hSw; (try dsimp only at hSw); go_simp; try with_reducible rfl)
        try simp only [List.getElem_toArray, List.getElem_cons_zero, List.getElem_cons_succ, Act.put, List.setIfInBounds_toArray, List.set_cons_zero, List.set_cons_succ]
        refine wpAnyH_take (i := 10) (v := undef) rfl (by kernel_rfl) (by kernel_rfl) (by kernel_rfl) (fun _ _ _ h => h) (Or.inr ⟨by rfl, rfl⟩) (by assumption) ?_
        try simp only [List.getElem_toArray, List.getElem_cons_zero, List.getElem_cons_succ, Act.put, List.setIfInBounds_toArray, List.set_cons_zero, List.set_cons_succ]
        refine wpAnyH_take (i := 11) (v := undef) rfl (by kernel_rfl) (by kernel_rfl) (by kernel_rfl) (fun _ _ _ h => h) (Or.inr ⟨by rfl, rfl⟩) (by assumption) ?_
        try simp only [List.getElem_toArray, List.getElem_cons_zero, List.getElem_cons_succ, Act.put, List.setIfInBounds_toArray, List.set_cons_zero, List.set_cons_succ]
        refine wpAnyH_take (i := 12) (v := ?_) rfl (by kernel_rfl) (by kernel_rfl) (by kernel_rfl) (fun _ _ _ h => h) (Or.inl ⟨by rfl, ?_⟩) (by assumption) ?_
        rotate_left
        · (intro w hSw; (try dsimp only at hSw); go_simp; try with_reducible rfl)
        try simp only [List.getElem_toArray, List.getElem_cons_zero, List.getElem_cons_succ, Act.put, List.setIfInBounds_toArray, List.set_cons_zero, List.set_cons_succ]
        refine wpAnyH_done (by kernel_rfl) ?_ _
        have z0 := Z.out.out.at0
        have z1 := Z.out.out.at1
        go_wp2_with fail
        refine wp_region_held_drew (S := fun w' => w'.cell? ⟨o3, 0, none⟩ = some (.int .i64 0) ∧ w'.cell? ⟨o3, 1, none⟩ = some (.slice a3 RL.length c3)) (by kernel_rfl) (by first | exact ⟨z0, z1⟩ | go_keep) (fun hHeld => ?_)
        refine wpAnyH_take (i := 0) (v := ?_) rfl (by kernel_rfl) (by kernel_rfl) (by kernel_rfl) (fun _ _ _ h => h) (Or.inl ⟨by rfl, ?_⟩) (by assumption) ?_
        rotate_left
        · (intro w hSw; (try dsimp only at hSw); go_simp; try with_reducible rfl)
        try simp only [List.getElem_toArray, List.getElem_cons_zero, Act.put, List.setIfInBounds_toArray, List.set_cons_zero, List.set_cons_succ]
        refine wpAnyH_take (i := 1) (v := ?_) rfl (by kernel_rfl) (by kernel_rfl) (by kernel_rfl) (fun _ _ _ h => h) (Or.inl ⟨by rfl, ?_⟩) (by assumption) ?_
        rotate_left
        · (intro w hSw; (try dsimp only at hSw); go_simp; try with_reducible rfl)
        try simp only [List.getElem_toArray, List.getElem_cons_zero, List.getElem_cons_succ, Act.put, List.setIfInBounds_toArray, List.set_cons_zero, List.set_cons_succ]
        refine wpAnyH_ready (rs := [2]) (by kernel_rfl) (by simp) ?_
        refine AllReadyH.cons rfl (fun K hK => ?_) AllReadyH.nil
        try simp only [List.getElem_toArray]
        go_simp
        (go_at_call 35; refine (HS.out _).mono ?_; rintro e w7 ⟨a7, c7, rfl, hin7, hbd⟩; have hb7 : Below w6.heap.size w6 w7 := (by first | exact hbd | exact ⟨hbd.os, hbd.tape, hbd.output, hbd.size, hbd.block⟩); clear hbd; have hz7 := hb7.size; replace Z := Lib.hid (Z.out.next hb7 Z.out.lt); replace IR := Lib.hid (IR.out.below hb7 (Nat.le_refl _)); replace IS := Lib.hid (IS.out.below hb7 (Nat.le_refl _)); replace B := Lib.hid (B.out.trans (hb7.mono B.out.size)); have IS2 := Lib.hid (hin7.mono (Nat.zero_le _)); clear hin7; clear hb7; have z0_7 := Z.out.out.at0; have z1_7 := Z.out.out.at1)
        refine hK.out _ _ (by first | exact ⟨z0_7, z1_7⟩ | exact ⟨z0, z1⟩ | go_keep) (fun hHeld => ?_)
        clear hK K
        try simp only [List.getElem_toArray, List.getElem_cons_zero, List.getElem_cons_succ, Act.put, List.setIfInBounds_toArray, List.set_cons_zero, List.set_cons_succ]
        refine wpAnyH_ready (rs := [3]) (by kernel_rfl) (by simp) ?_
        refine AllReadyH.cons rfl (fun K hK => ?_) AllReadyH.nil
        try simp only [List.getElem_toArray]
        go_simp
        (go_at_call 13; refine (lawsEqualClass _ _ _ _ _ _ _ _ (by first | exact IR.out.rd | exact IR.out.rd.below (k := w7.heap.size) ((Below.refl _ _).drew) (Nat.le_refl _)) (by first | exact IS2.out.rd | exact IS2.out.rd.below (k := w7.heap.size) ((Below.refl _ _).drew) (Nat.le_refl _))).mono ?_; rintro e w8 ⟨rfl, hbd⟩; have hb8 : Below w7.heap.size w7 w8 := (by first | exact hbd | exact ⟨hbd.os, hbd.tape, hbd.output, hbd.size, hbd.block⟩); clear hbd; have hz8 := hb8.size; replace Z := Lib.hid (Z.out.next hb8 Z.out.lt); replace IR := Lib.hid (IR.out.below hb8 (Nat.le_refl _)); replace IS := Lib.hid (IS.out.below hb8 (Nat.le_refl _)); replace IS2 := Lib.hid (IS2.out.below hb8 (Nat.le_refl _)); replace B := Lib.hid (B.out.trans (hb8.mono B.out.size)); clear hb8; have z0_8 := Z.out.out.at0; have z1_8 := Z.out.out.at1)
        refine hK.out _ _ (by first | exact ⟨z0_8, z1_8⟩ | exact ⟨z0_7, z1_7⟩ | exact ⟨z0, z1⟩ | go_keep) (fun hHeld => ?_)
        clear hK K
        try simp only [List.getElem_toArray, List.getElem_cons_zero, List.getElem_cons_succ, Act.put, List.setIfInBounds_toArray, List.set_cons_zero, List.set_cons_succ]
        refine wpAnyH_take (i := 4) (v := ?_) rfl (by kernel_rfl) (by kernel_rfl) (by kernel_rfl) (fun _ _ _ h => h) (Or.inl ⟨by rfl, ?_⟩) (by assumption) ?_
        rotate_left
        · (intro w hSw; (try dsimp only at hSw); go_simp; try with_reducible rfl)
        try simp only [List.getElem_toArray, List.getElem_cons_zero, List.getElem_cons_succ, Act.put, List.setIfInBounds_toArray, List.set_cons_zero, List.set_cons_succ]
        refine wpAnyH_done (by kernel_rfl) ?_ _
        go_wp2_with fail
        go_ret
        exact ⟨rfl, by first | exact B.out | exact B.out.drew⟩
      · have dv0 : decide (N < 0) = false := decide_eq_false hv0
        have hv5 : 5 < N := by omega
        have dv5 : decide (5 < N) = true := decide_eq_true hv5
        go_wp2_with fail
        refine (HI.out _).mono ?_
        rintro e w3 ⟨a3, c3, rfl, hin3, hb3⟩
        have hz3 := hb3.size
        replace B := Lib.hid (B.out.trans (hb3.mono B.out.size))
        have IR := Lib.hid (hin3.mono (Nat.zero_le _))
        clear hin3 hb3
        have Z := Lib.hid (Bx.new (0 : Int) (.slice a3 RL.length c3) w3)
        replace IR := Lib.hid (IR.out.alloc (Obj.cells #[.int .i64 (0 : Int), .slice a3 RL.length c3] 25))
        replace B := Lib.hid (B.out.alloc B.out.size (Obj.cells #[.int .i64 (0 : Int), .slice a3 RL.length c3] 25))
        go_wp2_with fail
        generalize (w3.alloc (Obj.cells #[.int .i64 (0 : Int), .slice a3 RL.length c3] 25)) = w4 at *
        generalize ho3 : w3.heap.size = o3 at *
        have z0 := Z.out.out.at0
        have z1 := Z.out.out.at1
        go_wp2_with fail
        refine wp_region_held_drew (S := fun w' => w'.cell? ⟨o3, 0, none⟩ = some (.int .i64 0) ∧ w'.cell? ⟨o3, 1, none⟩ = some (.slice a3 RL.length c3)) (by kernel_rfl) (by first | exact ⟨z0, z1⟩ | go_keep) (fun hHeld => ?_)
        refine wpAnyH_take (i := 0) (v := ?_) rfl (by kernel_rfl) (by kernel_rfl) (by kernel_rfl) (fun _ _ _ h => h) (Or.inl ⟨by rfl, ?_⟩) (by assumption) ?_
        rotate_left
        · (intro w hSw; (try dsimp only at hSw); go_simp; try with_reducible rfl)
        try simp only [List.getElem_toArray, List.getElem_cons_zero, Act.put, List.setIfInBounds_toArray, List.set_cons_zero, List.set_cons_succ]
        refine wpAnyH_take (i := 1) (v := ?_) rfl (by kernel_rfl) (by kernel_rfl) (by kernel_rfl) (fun _ _ _ h => h) (Or.inl ⟨by rfl, ?_⟩) (by assumption) ?_
        rotate_left
        · (intro w hSw; (try dsimp only at hSw); go_simp; try with_reducible rfl)
        try simp only [List.getElem_toArray, List.getElem_cons_zero, List.getElem_cons_succ, Act.put, List.setIfInBounds_toArray, List.set_cons_zero, List.set_cons_succ]
        refine wpAnyH_ready (rs := [2]) (by kernel_rfl) (by simp) ?_
        refine AllReadyH.cons rfl (fun K hK => ?_) AllReadyH.nil
        try simp only [List.getElem_toArray]
        go_simp
        (go_at_call 35; refine (HS.out _).mono ?_; rintro e w5 ⟨a5, c5, rfl, hin5, hbd⟩; have hb5 : Below w4.heap.size w4 w5 := (by first | exact hbd | exact ⟨hbd.os, hbd.tape, hbd.output, hbd.size, hbd.block⟩); clear hbd; have hz5 := hb5.size; replace Z := Lib.hid (Z.out.next hb5 Z.out.lt); replace IR := Lib.hid (IR.out.below hb5 (Nat.le_refl _)); replace B := Lib.hid (B.out.trans (hb5.mono B.out.size)); have IS := Lib.hid (hin5.mono (Nat.zero_le _)); clear hin5; clear hb5; have z0_5 := Z.out.out.at0; have z1_5 := Z.out.out.at1)
        refine hK.out _ _ (by first | exact ⟨z0_5, z1_5⟩ | exact ⟨z0, z1⟩ | go_keep) (fun hHeld => ?_)
        clear hK K
        try simp only [List.getElem_toArray, List.getElem_cons_zero, List.getElem_cons_succ, Act.put, List.setIfInBounds_toArray, List.set_cons_zero, List.set_cons_succ]
        refine wpAnyH_ready (rs := [3]) (by kernel_rfl) (by simp) ?_
        refine AllReadyH.cons rfl (fun K hK => ?_) AllReadyH.nil
        try simp only [List.getElem_toArray]
        go_simp
        (go_at_call 13; refine (lawsEqualClass _ _ _ _ _ _ _ _ (by first | exact IR.out.rd | exact IR.out.rd.below (k := w5.heap.size) ((Below.refl _ _).drew) (Nat.le_refl _)) (by first | exact IS.out.rd | exact IS.out.rd.below (k := w5.heap.size) ((Below.refl _ _).drew) (Nat.le_refl _))).mono ?_; rintro e w6 ⟨rfl, hbd⟩; have hb6 : Below w5.heap.size w5 w6 := (by first | exact hbd | exact ⟨hbd.os, hbd.tape, hbd.output, hbd.size, hbd.block⟩); clear hbd; have hz6 := hb6.size; replace Z := Lib.hid (Z.out.next hb6 Z.out.lt); replace IR := Lib.hid (IR.out.below hb6 (Nat.le_refl _)); replace IS := Lib.hid (IS.out.below hb6 (Nat.le_refl _)); replace B := Lib.hid (B.out.trans (hb6.mono B.out.size)); clear hb6; have z0_6 := Z.out.out.at0; have z1_6 := Z.out.out.at1)
        refine hK.out _ _ (by first | exact ⟨z0_6, z1_6⟩ | exact ⟨z0_5, z1_5⟩ | exact ⟨z0, z1⟩ | go_keep) (fun hHeld => ?_)
        clear hK K
        try simp only [List.getElem_toArray, List.getElem_cons_zero, List.getElem_cons_succ, Act.put, List.setIfInBounds_toArray, List.set_cons_zero, List.set_cons_succ]
        refine wpAnyH_take (i := 4) (v := ?_) rfl (by kernel_rfl) (by kernel_rfl) (by kernel_rfl) (fun _ _ _ h => h) (Or.inl ⟨by rfl, ?_⟩) (by assumption) ?_
        rotate_left
        · (intro w hSw; (try dsimp only at hSw); go_simp; try with_reducible rfl)
        try simp only [List.getElem_toArray, List.getElem_cons_zero, List.getElem_cons_succ, Act.put, List.setIfInBounds_toArray, List.set_cons_zero, List.set_cons_succ]
        refine wpAnyH_take (i := 5) (v := ?_) rfl (by kernel_rfl) (by kernel_rfl) (by kernel_rfl) (fun _ _ _ h => h) (Or.inl ⟨by rfl, ?_⟩) (by assumption) ?_
        rotate_left
        · (intro w hSw; (try dsimp only at hSw); go_simp; try with_reducible rfl)
        try simp only [List.getElem_toArray, List.getElem_cons_zero, List.getElem_cons_succ, Act.put, List.setIfInBounds_toArray, List.set_cons_zero, List.set_cons_succ]
        refine wpAnyH_take (i := 6) (v := ?_) rfl (by kernel_rfl) (by kernel_rfl) (by kernel_rfl) (fun _ _ _ h => h) (Or.inl ⟨by rfl, ?_⟩) (by assumption) ?_
        rotate_left
        · (intro w hSw; (try dsimp only at hSw); go_simp; try with_reducible rfl)
        try simp only [List.getElem_toArray, List.getElem_cons_zero, List.getElem_cons_succ, Act.put, List.setIfInBounds_toArray, List.set_cons_zero, List.set_cons_succ]
        refine wpAnyH_take (i := 7) (v := ?_) rfl (by kernel_rfl) (by kernel_rfl) (by kernel_rfl) (fun _ _ _ h => h) (Or.inl ⟨by rfl, ?_⟩) (by assumption) ?_
        rotate_left
        · (intro w hSw; (try dsimp only at hSw); go_simp; try with_reducible rfl)
        try simp only [List.getElem_toArray, List.getElem_cons_zero, List.getElem_cons_succ, Act.put, List.setIfInBounds_toArray, List.set_cons_zero, List.set_cons_succ]
        refine wpAnyH_take (i := 8) (v := ?_) rfl (by kernel_rfl) (by kernel_rfl) (by kernel_rfl) (fun _ _ _ h => h) (Or.inl ⟨by rfl, ?_⟩) (by assumption) ?_
        rotate_left
        · (intro w hSw; (try dsimp only at hSw); go_simp; try with_reducible rfl)
        try simp only [List.getElem_toArray, List.getElem_cons_zero, List.getElem_cons_succ, Act.put, List.setIfInBounds_toArray, List.set_cons_zero, List.set_cons_succ]
        refine wpAnyH_take (i := 9) (v := ?_) rfl (by kernel_rfl) (by kernel_rfl) (by kernel_rfl) (fun _ _ _ h => h) (Or.inl ⟨by rfl, ?_⟩) (by assumption) ?_
        rotate_left
        · (intro w hSw; (try dsimp only at hSw); go_simp; try with_reducible rfl)
        try simp only [List.getElem_toArray, List.getElem_cons_zero, List.getElem_cons_succ, Act.put, List.setIfInBounds_toArray, List.set_cons_zero, List.set_cons_succ]
        refine wpAnyH_take (i := 10) (v := ?_) rfl (by kernel_rfl) (by kernel_rfl) (by kernel_rfl) (fun _ _ _ h => h) (Or.inl ⟨by rfl, ?_⟩) (by assumption) ?_
        rotate_left
        · (intro w hSw; (try dsimp only at hSw); go_simp; try with_reducible rfl)
        try simp only [List.getElem_toArray, List.getElem_cons_zero, List.getElem_cons_succ, Act.put, List.setIfInBounds_toArray, List.set_cons_zero, List.set_cons_succ]
        refine wpAnyH_take (i := 11) (v := ?_) rfl (by kernel_rfl) (by kernel_rfl) (by kernel_rfl) (fun _ _ _ h => h) (Or.inl ⟨by rfl, ?_⟩) (by assumption) ?_
        rotate_left
        · (intro w hSw; (try dsimp only at hSw); go_simp; try with_reducible rfl)
        try simp only [List.getElem_toArray, List.getElem_cons_zero, List.getElem_cons_succ, Act.put, List.setIfInBounds_toArray, List.set_cons_zero, List.set_cons_succ]
        refine wpAnyH_take (i := 12) (v := ?_) rfl (by kernel_rfl) (by kernel_rfl) (by kernel_rfl) (fun _ _ _ h => h) (Or.inl ⟨by rfl, ?_⟩) (by assumption) ?_
        rotate_left
        · (intro w hSw; (try dsimp only at hSw); go_simp; try with_reducible rfl)
        try simp only [List.getElem_toArray, List.getElem_cons_zero, List.getElem_cons_succ, Act.put, List.setIfInBounds_toArray, List.set_cons_zero, List.set_cons_succ]
        refine wpAnyH_done (by kernel_rfl) ?_ _
        have z0 := Z.out.out.at0
        have z1 := Z.out.out.at1
        go_wp2_with fail
        refine wp_region_held_drew (S := fun w' => w'.cell? ⟨o3, 0, none⟩ = some (.int .i64 0) ∧ w'.cell? ⟨o3, 1, none⟩ = some (.slice a3 RL.length c3)) (by kernel_rfl) (by first | exact ⟨z0, z1⟩ | go_keep) (fun hHeld => ?_)
        refine wpAnyH_take (i := 0) (v := ?_) rfl (by kernel_rfl) (by kernel_rfl) (by kernel_rfl) (fun _ _ _ h => h) (Or.inl ⟨by rfl, ?_⟩) (by assumption) ?_
        rotate_left
        · (intro w hSw; (try dsimp only at hSw); go_simp; try with_reducible rfl)
        try simp only [List.getElem_toArray, List.getElem_cons_zero, Act.put, List.setIfInBounds_toArray, List.set_cons_zero, List.set_cons_succ]
        refine wpAnyH_take (i := 1) (v := ?_) rfl (by kernel_rfl) (by kernel_rfl) (by kernel_rfl) (fun _ _ _ h => h) (Or.inl ⟨by rfl, ?_⟩) (by assumption) ?_
        rotate_left
        · (intro w hSw; (try dsimp only at hSw); go_simp; try with_reducible rfl)
        try simp only [List.getElem_toArray, List.getElem_cons_zero, List.getElem_cons_succ, Act.put, List.setIfInBounds_toArray, List.set_cons_zero, List.set_cons_succ]
        refine wpAnyH_ready (rs := [2]) (by kernel_rfl) (by simp) ?_
        refine AllReadyH.cons rfl (fun K hK => ?_) AllReadyH.nil
        try simp only [List.getElem_toArray]
        go_simp
        (go_at_call 35; refine (HS.out _).mono ?_; rintro e w7 ⟨a7, c7, rfl, hin7, hbd⟩; have hb7 : Below w6.heap.size w6 w7 := (by first | exact hbd | exact ⟨hbd.os, hbd.tape, hbd.output, hbd.size, hbd.block⟩); clear hbd; have hz7 := hb7.size; replace Z := Lib.hid (Z.out.next hb7 Z.out.lt); replace IR := Lib.hid (IR.out.below hb7 (Nat.le_refl _)); replace IS := Lib.hid (IS.out.below hb7 (Nat.le_refl _)); replace B := Lib.hid (B.out.trans (hb7.mono B.out.size)); have IS2 := Lib.hid (hin7.mono (Nat.zero_le _)); clear hin7; clear hb7; have z0_7 := Z.out.out.at0; have z1_7 := Z.out.out.at1)
        refine hK.out _ _ (by first | exact ⟨z0_7, z1_7⟩ | exact ⟨z0, z1⟩ | go_keep) (fun hHeld => ?_)
        clear hK K
        try simp only [List.getElem_toArray, List.getElem_cons_zero, List.getElem_cons_succ, Act.put, List.setIfInBounds_toArray, List.set_cons_zero, List.set_cons_succ]
        refine wpAnyH_ready (rs := [3]) (by kernel_rfl) (by simp) ?_
        refine AllReadyH.cons rfl (fun K hK => ?_) AllReadyH.nil
        try simp only [List.getElem_toArray]
        go_simp
        (go_at_call 13; refine (lawsEqualClass _ _ _ _ _ _ _ _ (by first | exact IR.out.rd | exact IR.out.rd.below (k := w7.heap.size) ((Below.refl _ _).drew) (Nat.le_refl _)) (by first | exact IS2.out.rd | exact IS2.out.rd.below (k := w7.heap.size) ((Below.refl _ _).drew) (Nat.le_refl _))).mono ?_; rintro e w8 ⟨rfl, hbd⟩; have hb8 : Below w7.heap.size w7 w8 := (by first | exact hbd | exact ⟨hbd.os, hbd.tape, hbd.output, hbd.size, hbd.block⟩); clear hbd; have hz8 := hb8.size; replace Z := Lib.hid (Z.out.next hb8 Z.out.lt); replace IR := Lib.hid (IR.out.below hb8 (Nat.le_refl _)); replace IS := Lib.hid (IS.out.below hb8 (Nat.le_refl _)); replace IS2 := Lib.hid (IS2.out.below hb8 (Nat.le_refl _)); replace B := Lib.hid (B.out.trans (hb8.mono B.out.size)); clear hb8; have z0_8 := Z.out.out.at0; have z1_8 := Z.out.out.at1)
        refine hK.out _ _ (by first | exact ⟨z0_8, z1_8⟩ | exact ⟨z0_7, z1_7⟩ | exact ⟨z0, z1⟩ | go_keep) (fun hHeld => ?_)
        clear hK K
        try simp only [List.getElem_toArray, List.getElem_cons_zero, List.getElem_cons_succ, Act.put, List.setIfInBounds_toArray, List.set_cons_zero, List.set_cons_succ]
        refine wpAnyH_take (i := 4) (v := ?_) rfl (by kernel_rfl) (by kernel_rfl) (by kernel_rfl) (fun _ _ _ h => h) (Or.inl ⟨by rfl, ?_⟩) (by assumption) ?_
        rotate_left
        · (intro w hSw; (try dsimp only at hSw); go_simp; try with_reducible rfl)
        try simp only [List.getElem_toArray, List.getElem_cons_zero, List.getElem_cons_succ, Act.put, List.setIfInBounds_toArray, List.set_cons_zero, List.set_cons_succ]
        refine wpAnyH_done (by kernel_rfl) ?_ _
        go_wp2_with fail
        go_ret
        exact ⟨rfl, by first | exact B.out | exact B.out.drew⟩
  · go_enter Tryd.func8, Tryd.ntmps8
    go_wp2_with fail
    go_ret
    exact ⟨rfl, Below.refl _ _⟩

end Go.Proofs.YtiocaopabkbgpaaDoor
