/- FnSettleClass's walk: settled classes shatter themselves. Conditions: the code is a slice of bytes. -/
import Derived.Test.YtfnlfhgjmnjgaabZK
import Derived.Test.YtfnlfhgjmnjgaabZJ
import Derived.Test.YtfnlfhgjmnjgaabZI
import Derived.Test.YtfnlfhgjmnjgaabSettle
import Derived.Test.YtfnlfhgjmnjgaabSettleS
import Derived.Test.YtfnlfhgjmnjgaabShift
import Derived.Test.YtfnlfhgjmnjgaabStrong
import Derived.Test.YtfnlfhgjmnjgaabShat
import Derived.Test.YtfnlfhgjmnjgaabLawHc
namespace Go.Proofs.Ytfnlfhgjmnjgaab
open Go.RowKit

theorem eqB_self (xs : List Int) : eqB xs xs = true := eqB_of rfl (fun _ _ => rfl)
theorem vldB_swp {m : Nat} {ns : List Nat} (h : Cls m ns) : vldB (m : Int) (toI (swp m ns)) = true := cls_vldB (h.swTo m)
theorem sh_swp {m x : Nat} {ns : List Nat} (h : Cls m ns) (hx : x < m) : shN (m : Int) (toI (swp m ns)) (x : Int) = m ∧ shL (m : Int) (toI (swp m ns)) (x : Int) = toI (swp m ns) := by
  have h1 := shN_in (h.swTo m) hx
  have h2 : sh1 x (swp m ns) = swp m ns := sh1_fix (h.swTo m) (xdn_swTo h m h.pts x hx)
  refine ⟨h1.1, ?_⟩
  rw [show shL (m : Int) (toI (swp m ns)) (x : Int) = toI (sh1 x (swp m ns)) from h1.2, h2]


set_option maxHeartbeats 6400000 in
set_option maxRecDepth 100000 in
theorem walkFnSettleClass (a : Option Addr) (b off n cap : Nat) (w : World) (hc : n ≤ cap) (hcap : cap ≤ maxLen) (h : Byt w a b off n) :
    Calls Try.prog 6 #[.slice a n cap] w fun e w' => e = .returned (.bool true) ∧ Below w.heap.size w w' := by
  by_cases hn : n ≤ 1048576
  · have HD := Lib.hid (dDrawSettleClass a b off n cap w hc hn hcap h)
    clear h
    go_enter Try.func6, Try.ntmps6
    go_wp2_with fail
    refine HD.out.mono ?_
    rintro e w1 ⟨N, zs, hbd, a1, c1, rfl, hin, hb⟩
    generalize hL : zs.length = L at *
    have X := Lib.hid (Bx.new N (.slice a1 L c1) w1)
    have I1 := Lib.hid ((hin.mono (Nat.zero_le _)).alloc (Obj.cells #[.int .i64 N, .slice a1 L c1] 25))
    have B := Lib.hid (hb.alloc hb.size (Obj.cells #[.int .i64 N, .slice a1 L c1] 25))
    have HZ2 := Lib.hid (show (w1.alloc (Obj.cells #[.int .i64 N, .slice a1 L c1] 25)).heap.size = w1.heap.size + 1 by simp)
    have hz1 := hb.size
    clear hin hb HD
    go_wp2_with fail
    generalize (w1.alloc (Obj.cells #[.int .i64 N, .slice a1 L c1] 25)) = w2 at *
    have hz2 := HZ2.out
    generalize ho : w1.heap.size = o at *
    obtain ⟨hN0, hN1, hL34⟩ := hbd
    by_cases hv : vldB N zs = true
    · obtain ⟨m, ns, rfl, rfl, hcl⟩ := vldB_cls hv
      have hL2 : ns.length = L := by rw [← hL, toI_length]
      have hm := hcl.pts
      obtain ⟨G, hG⟩ : ∃ G, G = swp m ns := ⟨_, rfl⟩
      have eN : stN (m : Int) (toI ns) = m := by rw [stN, if_pos hv]
      have eC : stL (m : Int) (toI ns) = toI G := by rw [stL, if_pos hv, toNat_toI, Int.toNat_natCast, hG]
      have hcG : Cls m G := by rw [hG]; exact hcl.swTo m
      have hvG := cls_vldB hcG
      have eD : strongL (m : Int) (toI G) = toI G := by rw [strongL_in hvG, hG, (swp_shat hcl).2]
      have eA : shatL (m : Int) (toI G) = toI G := by rw [shatL_N, shatN_in hvG, hG, (swp_shat hcl).1]
      have hGL : G.length = L := by rw [hG, ← hL2]; exact swTo_len hcl m
      have HI := Lib.hid (fun v w h => implSettleClass (m : Int) v (toI ns) w h)
      have HS := Lib.hid (fun v w h => specSettleClass (m : Int) v (toI ns) w h)
      have HV := Lib.hid (fun v w h => implValid (m : Int) v (toI ns) w h)
      have HD := Lib.hid (fun v w h => implStrongSets (m : Int) v (toI G) w h)
      have HT := Lib.hid (fun v w h => implShatteredSets (m : Int) v (toI G) w h)
      have HH := Lib.hid (show ∀ x : Nat, x < m → ∀ v w, Rd w v (toI G) → Calls Try.prog 30 #[.agg #[.int .i64 (m : Int), v], .int .i64 (x : Int)] w (RetClass (m : Int) (toI G) w) from fun x hx v w h => by
        have h1 := sh_swp hcl hx
        rw [← hG] at h1
        have h2 := implShiftClass (m : Int) v (toI G) (x : Int) w h
        rw [h1.1, h1.2] at h2
        exact h2)
      rw [eN, eC] at HI HS
      rw [eD] at HD
      rw [eA] at HT
      rw [hv] at HV
      have HGl := Lib.hid ((toI_length G).trans hGL)
      have hmI : (m : Int) < 9 := by omega
      clear hv hcl hcG hG hvG eN eC eD eA
      refine (HI.out _ _ I1.out.rd).mono ?_
      rintro e w3 ⟨a3, c3, rfl, hin3, hb3⟩
      rw [HGl.out] at hin3 ⊢
      have hz3 := hb3.size
      replace X := Lib.hid (X.out.next hb3 (by omega))
      replace I1 := Lib.hid (I1.out.below hb3 (Nat.le_refl _))
      replace B := Lib.hid (B.out.trans (hb3.mono (by omega)))
      have IG := Lib.hid (hin3.mono (Nat.zero_le _))
      clear hin3 hb3
      have Y := Lib.hid (Bx.new (m : Int) (.slice a3 L c3) w3)
      replace X := Lib.hid (X.out.alloc (Obj.cells #[.int .i64 (m : Int), .slice a3 L c3] 25))
      replace I1 := Lib.hid (I1.out.alloc (Obj.cells #[.int .i64 (m : Int), .slice a3 L c3] 25))
      replace IG := Lib.hid (IG.out.alloc (Obj.cells #[.int .i64 (m : Int), .slice a3 L c3] 25))
      replace B := Lib.hid (B.out.alloc B.out.size (Obj.cells #[.int .i64 (m : Int), .slice a3 L c3] 25))
      have HZ := Lib.hid (show (w3.alloc (Obj.cells #[.int .i64 (m : Int), .slice a3 L c3] 25)).heap.size = w3.heap.size + 1 by simp)
      go_wp2_with fail
      generalize (w3.alloc (Obj.cells #[.int .i64 (m : Int), .slice a3 L c3] 25)) = w4 at *
      have hz4 := HZ.out
      clear HZ
      generalize ho2 : w3.heap.size = o2 at *
      have x0 := X.out.out.at0
      have x1 := X.out.out.at1
      have y0 := Y.out.out.at0
      have y1 := Y.out.out.at1
      go_wp2_with fail
      go_region_held3 (fun w' => w'.cell? ⟨o, 0, none⟩ = some (.int .i64 (m : Int)) ∧ w'.cell? ⟨o, 1, none⟩ = some (.slice a1 L c1) ∧ w'.cell? ⟨o2, 0, none⟩ = some (.int .i64 (m : Int)) ∧ w'.cell? ⟨o2, 1, none⟩ = some (.slice a3 L c3)) (first | exact ⟨x0_7, x1_7, y0_7, y1_7⟩ | exact ⟨x0_6, x1_6, y0_6, y1_6⟩ | exact ⟨x0_5, x1_5, y0_5, y1_5⟩ | exact ⟨x0, x1, y0, y1⟩ | go_keep) (first
        | (go_at_call 29; refine (HS.out _ _ ⟨0, (by first | exact I1.out | exact I1.out.below (k := w4.heap.size) ((Below.refl _ _).drew) (Nat.le_refl _))⟩).mono ?_; rintro e w5 ⟨a5, c5, rfl, hin5, hbd⟩; rw [HGl.out] at hin5 ⊢; have hb5 : Below w4.heap.size w4 w5 := (by first | exact hbd | exact ⟨hbd.os, hbd.tape, hbd.output, hbd.size, hbd.block⟩); clear hbd; have hz5 := hb5.size; replace X := Lib.hid (X.out.next hb5 (by omega)); replace Y := Lib.hid (Y.out.next hb5 (by omega)); replace I1 := Lib.hid (I1.out.below hb5 (Nat.le_refl _)); replace IG := Lib.hid (IG.out.below hb5 (Nat.le_refl _)); replace B := Lib.hid (B.out.trans (hb5.mono (by omega))); have IS := Lib.hid (hin5.mono (Nat.zero_le _)); clear hin5; clear hb5; have x0_5 := X.out.out.at0; have x1_5 := X.out.out.at1; have y0_5 := Y.out.out.at0; have y1_5 := Y.out.out.at1)
        | (go_at_call 28; refine (lawsEqualClass _ _ _ _ _ _ _ _ IG.out.rd IS.out.rd).mono ?_; rintro e w6 ⟨rfl, hbd⟩; have hb6 : Below w5.heap.size w5 w6 := (by first | exact hbd | exact ⟨hbd.os, hbd.tape, hbd.output, hbd.size, hbd.block⟩); clear hbd; have hz6 := hb6.size; replace X := Lib.hid (X.out.next hb6 (by omega)); replace Y := Lib.hid (Y.out.next hb6 (by omega)); replace I1 := Lib.hid (I1.out.below hb6 (Nat.le_refl _)); replace IG := Lib.hid (IG.out.below hb6 (Nat.le_refl _)); replace IS := Lib.hid (IS.out.below hb6 (Nat.le_refl _)); replace B := Lib.hid (B.out.trans (hb6.mono (by omega))); clear hb6; have x0_6 := X.out.out.at0; have x1_6 := X.out.out.at1; have y0_6 := Y.out.out.at0; have y1_6 := Y.out.out.at1)
        | (go_at_call 12; refine (HV.out _ _ I1.out.rd).mono ?_; rintro e w7 ⟨rfl, hbd⟩; have hb7 : Below w6.heap.size w6 w7 := (by first | exact hbd | exact ⟨hbd.os, hbd.tape, hbd.output, hbd.size, hbd.block⟩); clear hbd; have hz7 := hb7.size; replace X := Lib.hid (X.out.next hb7 (by omega)); replace Y := Lib.hid (Y.out.next hb7 (by omega)); replace I1 := Lib.hid (I1.out.below hb7 (Nat.le_refl _)); replace IG := Lib.hid (IG.out.below hb7 (Nat.le_refl _)); replace IS := Lib.hid (IS.out.below hb7 (Nat.le_refl _)); replace B := Lib.hid (B.out.trans (hb7.mono (by omega))); clear hb7; have x0_7 := X.out.out.at0; have x1_7 := X.out.out.at1; have y0_7 := Y.out.out.at0; have y1_7 := Y.out.out.at1))
      clear IS HI HS HV
      go_wp2_with fail
      go_loopw [5] (fun i wr => ∃ j : Nat, j ≤ m ∧ i = .int .i64 j ∧ Below w7.heap.size w7 wr) (fun i _ => m - (intOf i).toNat)
      case atStart => exact ⟨0, Nat.zero_le _, rfl, Below.refl _ _⟩
      case round =>
        obtain ⟨j, hj, rfl, hbe⟩ := hrel
        have HBE := Lib.hid hbe
        have hzr := hbe.size
        replace X := Lib.hid (X.out.next hbe (by omega))
        replace Y := Lib.hid (Y.out.next hbe (by omega))
        replace I1 := Lib.hid (I1.out.below hbe (Nat.le_refl _))
        replace IG := Lib.hid (IG.out.below hbe (Nat.le_refl _))
        replace B := Lib.hid (B.out.trans (hbe.mono (by omega)))
        clear hbe
        by_cases hlt : j < m
        · have HHj := Lib.hid (HH.out j hlt)
          clear HH HT HD
          have hltI : (j : Int) < (m : Int) := by omega
          obtain ⟨w8, hwr⟩ : ∃ w8, w8 = wr := ⟨_, rfl⟩
          subst hwr
          have x0 := X.out.out.at0
          have x1 := X.out.out.at1
          have y0 := Y.out.out.at0
          have y1 := Y.out.out.at1
          go_wp2_with fail
          go_region_held3 (fun w' => w'.cell? ⟨o, 0, none⟩ = some (.int .i64 (m : Int)) ∧ w'.cell? ⟨o, 1, none⟩ = some (.slice a1 L c1) ∧ w'.cell? ⟨o2, 0, none⟩ = some (.int .i64 (m : Int)) ∧ w'.cell? ⟨o2, 1, none⟩ = some (.slice a3 L c3)) (first | exact ⟨x0_10, x1_10, y0_10, y1_10⟩ | exact ⟨x0_9, x1_9, y0_9, y1_9⟩ | exact ⟨x0, x1, y0, y1⟩ | go_keep) (first
            | (go_at_call 30; refine (HHj.out _ _ (by first | exact IG.out.rd | exact IG.out.rd.below (k := w8.heap.size) ((Below.refl _ _).drew) (Nat.le_refl _))).mono ?_; rintro e w9 ⟨a9, c9, rfl, hin9, hbd⟩; rw [HGl.out] at hin9 ⊢; have hb9 : Below w8.heap.size w8 w9 := (by first | exact hbd | exact ⟨hbd.os, hbd.tape, hbd.output, hbd.size, hbd.block⟩); clear hbd; have hz9 := hb9.size; replace X := Lib.hid (X.out.next hb9 (by omega)); replace Y := Lib.hid (Y.out.next hb9 (by omega)); replace I1 := Lib.hid (I1.out.below hb9 (Nat.le_refl _)); replace IG := Lib.hid (IG.out.below hb9 (Nat.le_refl _)); replace B := Lib.hid (B.out.trans (hb9.mono (by omega))); replace HBE := Lib.hid (HBE.out.trans (hb9.mono (by omega))); have IS := Lib.hid (hin9.mono (Nat.zero_le _)); clear hin9; clear hb9; have x0_9 := X.out.out.at0; have x1_9 := X.out.out.at1; have y0_9 := Y.out.out.at0; have y1_9 := Y.out.out.at1)
            | (go_at_call 28; refine (lawsEqualClass _ _ _ _ _ _ _ _ IS.out.rd IG.out.rd).mono ?_; rintro e w10 ⟨rfl, hbd⟩; have hb10 : Below w9.heap.size w9 w10 := (by first | exact hbd | exact ⟨hbd.os, hbd.tape, hbd.output, hbd.size, hbd.block⟩); clear hbd; have hz10 := hb10.size; replace X := Lib.hid (X.out.next hb10 (by omega)); replace Y := Lib.hid (Y.out.next hb10 (by omega)); replace I1 := Lib.hid (I1.out.below hb10 (Nat.le_refl _)); replace IG := Lib.hid (IG.out.below hb10 (Nat.le_refl _)); replace IS := Lib.hid (IS.out.below hb10 (Nat.le_refl _)); replace B := Lib.hid (B.out.trans (hb10.mono (by omega))); replace HBE := Lib.hid (HBE.out.trans (hb10.mono (by omega))); clear hb10; have x0_10 := X.out.out.at0; have x1_10 := X.out.out.at1; have y0_10 := Y.out.out.at0; have y1_10 := Y.out.out.at1))
          all_goals
            go_wp2_with fail
            go_roundw
            case rel => exact ⟨j + 1, by omega, by go_num, HBE.out⟩
            case measure => simp [intOf]; omega
        · obtain rfl : m = j := by omega
          clear HH
          obtain ⟨w8, hwr⟩ : ∃ w8, w8 = wr := ⟨_, rfl⟩
          subst hwr
          have x0 := X.out.out.at0
          have x1 := X.out.out.at1
          have y0 := Y.out.out.at0
          have y1 := Y.out.out.at1
          go_wp2_with fail
          refine wp_region_held_drew (S := fun w' => w'.cell? ⟨o, 0, none⟩ = some (.int .i64 (m : Int)) ∧ w'.cell? ⟨o, 1, none⟩ = some (.slice a1 L c1) ∧ w'.cell? ⟨o2, 0, none⟩ = some (.int .i64 (m : Int)) ∧ w'.cell? ⟨o2, 1, none⟩ = some (.slice a3 L c3)) (by kernel_rfl) (by first | exact ⟨x0_12, x1_12, y0_12, y1_12⟩ | exact ⟨x0_11, x1_11, y0_11, y1_11⟩ | exact ⟨x0_10, x1_10, y0_10, y1_10⟩ | exact ⟨x0_9, x1_9, y0_9, y1_9⟩ | exact ⟨x0, x1, y0, y1⟩ | go_keep) (fun hHeld => ?_)
          refine wpAnyH_take (i := 0) (v := ?_) rfl (by kernel_rfl) (by kernel_rfl) (by kernel_rfl) (fun _ _ _ h => h) (Or.inl ⟨by rfl, ?_⟩) (by assumption) ?_
          rotate_left
          · (intro w hSw; (try dsimp only at hSw); go_simp; try with_reducible rfl)
          try simp only [List.getElem_toArray, List.getElem_cons_zero, Act.put, List.setIfInBounds_toArray, List.set_cons_zero, List.set_cons_succ]
          refine wpAnyH_take (i := 1) (v := ?_) rfl (by kernel_rfl) (by kernel_rfl) (by kernel_rfl) (fun _ _ _ h => h) (Or.inl ⟨by rfl, ?_⟩) (by assumption) ?_
          rotate_left
          · (intro w hSw; (try dsimp only at hSw); go_simp; try with_reducible rfl)
          try simp only [List.getElem_toArray, List.getElem_cons_zero, List.getElem_cons_succ, Act.put, List.setIfInBounds_toArray, List.set_cons_zero, List.set_cons_succ]
          refine wpAnyH_take (i := 2) (v := ?_) rfl (by kernel_rfl) (by kernel_rfl) (by kernel_rfl) (fun _ _ _ h => h) (Or.inl ⟨by rfl, ?_⟩) (by assumption) ?_
          rotate_left
          · (intro w hSw; (try dsimp only at hSw); go_simp; try with_reducible rfl)
          try simp only [List.getElem_toArray, List.getElem_cons_zero, List.getElem_cons_succ, Act.put, List.setIfInBounds_toArray, List.set_cons_zero, List.set_cons_succ]
          refine wpAnyH_take (i := 3) (v := ?_) rfl (by kernel_rfl) (by kernel_rfl) (by kernel_rfl) (fun _ _ _ h => h) (Or.inl ⟨by rfl, ?_⟩) (by assumption) ?_
          rotate_left
          · (intro w hSw; (try dsimp only at hSw); go_simp; try with_reducible rfl)
          try simp only [List.getElem_toArray, List.getElem_cons_zero, List.getElem_cons_succ, Act.put, List.setIfInBounds_toArray, List.set_cons_zero, List.set_cons_succ]
          refine wpAnyH_take (i := 4) (v := ?_) rfl (by kernel_rfl) (by kernel_rfl) (by kernel_rfl) (fun _ _ _ h => h) (Or.inl ⟨by rfl, ?_⟩) (by assumption) ?_
          rotate_left
          · (intro w hSw; (try dsimp only at hSw); go_simp; try with_reducible rfl)
          try simp only [List.getElem_toArray, List.getElem_cons_zero, List.getElem_cons_succ, Act.put, List.setIfInBounds_toArray, List.set_cons_zero, List.set_cons_succ]
          refine wpAnyH_take (i := 5) (v := ?_) rfl (by kernel_rfl) (by kernel_rfl) (by kernel_rfl) (fun _ _ _ h => h) (Or.inl ⟨by rfl, ?_⟩) (by assumption) ?_
          rotate_left
          · (intro w hSw; (try dsimp only at hSw); go_simp; try with_reducible rfl)
          try simp only [List.getElem_toArray, List.getElem_cons_zero, List.getElem_cons_succ, Act.put, List.setIfInBounds_toArray, List.set_cons_zero, List.set_cons_succ]
          refine wpAnyH_take (i := 6) (v := ?_) rfl (by kernel_rfl) (by kernel_rfl) (by kernel_rfl) (fun _ _ _ h => h) (Or.inl ⟨by rfl, ?_⟩) (by assumption) ?_
          rotate_left
          · (intro w hSw; (try dsimp only at hSw); go_simp; try with_reducible rfl)
          try simp only [List.getElem_toArray, List.getElem_cons_zero, List.getElem_cons_succ, Act.put, List.setIfInBounds_toArray, List.set_cons_zero, List.set_cons_succ]
          refine wpAnyH_take (i := 7) (v := ?_) rfl (by kernel_rfl) (by kernel_rfl) (by kernel_rfl) (fun _ _ _ h => h) (Or.inl ⟨by rfl, ?_⟩) (by assumption) ?_
          rotate_left
          · (intro w hSw; (try dsimp only at hSw); go_simp; try with_reducible rfl)
          try simp only [List.getElem_toArray, List.getElem_cons_zero, List.getElem_cons_succ, Act.put, List.setIfInBounds_toArray, List.set_cons_zero, List.set_cons_succ]
          refine wpAnyH_take (i := 8) (v := ?_) rfl (by kernel_rfl) (by kernel_rfl) (by kernel_rfl) (fun _ _ _ h => h) (Or.inl ⟨by rfl, ?_⟩) (by assumption) ?_
          rotate_left
          · (intro w hSw; (try dsimp only at hSw); go_simp; try with_reducible rfl)
          try simp only [List.getElem_toArray, List.getElem_cons_zero, List.getElem_cons_succ, Act.put, List.setIfInBounds_toArray, List.set_cons_zero, List.set_cons_succ]
          refine wpAnyH_take (i := 10) (v := ?_) rfl (by kernel_rfl) (by kernel_rfl) (by kernel_rfl) (fun _ _ _ h => h) (Or.inl ⟨by rfl, ?_⟩) (by assumption) ?_
          rotate_left
          · (intro w hSw; (try dsimp only at hSw); go_simp; try with_reducible rfl)
          try simp only [List.getElem_toArray, List.getElem_cons_zero, List.getElem_cons_succ, Act.put, List.setIfInBounds_toArray, List.set_cons_zero, List.set_cons_succ]
          refine wpAnyH_take (i := 11) (v := ?_) rfl (by kernel_rfl) (by kernel_rfl) (by kernel_rfl) (fun _ _ _ h => h) (Or.inl ⟨by rfl, ?_⟩) (by assumption) ?_
          rotate_left
          · (intro w hSw; (try dsimp only at hSw); go_simp; try with_reducible rfl)
          try simp only [List.getElem_toArray, List.getElem_cons_zero, List.getElem_cons_succ, Act.put, List.setIfInBounds_toArray, List.set_cons_zero, List.set_cons_succ]
          refine wpAnyH_ready (rs := [9]) (by kernel_rfl) (by simp) ?_
          refine AllReadyH.cons rfl (fun K hK => ?_) AllReadyH.nil
          try simp only [List.getElem_toArray]
          go_simp
          (go_at_call 25; refine (HT.out _ _ (by first | exact IG.out.rd | exact IG.out.rd.below (k := w8.heap.size) ((Below.refl _ _).drew) (Nat.le_refl _))).mono ?_; rintro e w9 ⟨a9, c9, rfl, hin9, hbd⟩; rw [HGl.out] at hin9 ⊢; have hb9 : Below w8.heap.size w8 w9 := (by first | exact hbd | exact ⟨hbd.os, hbd.tape, hbd.output, hbd.size, hbd.block⟩); clear hbd; have hz9 := hb9.size; replace X := Lib.hid (X.out.next hb9 (by omega)); replace Y := Lib.hid (Y.out.next hb9 (by omega)); replace I1 := Lib.hid (I1.out.below hb9 (Nat.le_refl _)); replace IG := Lib.hid (IG.out.below hb9 (Nat.le_refl _)); replace B := Lib.hid (B.out.trans (hb9.mono (by omega))); have IA := Lib.hid (hin9.mono (Nat.zero_le _)); clear hin9; clear hb9; have x0_9 := X.out.out.at0; have x1_9 := X.out.out.at1; have y0_9 := Y.out.out.at0; have y1_9 := Y.out.out.at1)
          refine hK.out _ _ (by first | exact ⟨x0_12, x1_12, y0_12, y1_12⟩ | exact ⟨x0_11, x1_11, y0_11, y1_11⟩ | exact ⟨x0_10, x1_10, y0_10, y1_10⟩ | exact ⟨x0_9, x1_9, y0_9, y1_9⟩ | exact ⟨x0, x1, y0, y1⟩ | go_keep) (fun hHeld => ?_)
          clear hK K
          try simp only [List.getElem_toArray, List.getElem_cons_zero, List.getElem_cons_succ, Act.put, List.setIfInBounds_toArray, List.set_cons_zero, List.set_cons_succ]
          refine wpAnyH_ready (rs := [12]) (by kernel_rfl) (by simp) ?_
          refine AllReadyH.cons rfl (fun K hK => ?_) AllReadyH.nil
          try simp only [List.getElem_toArray]
          go_simp
          (go_at_call 24; refine (lawsEqualInts _ _ (toI G) (toI G) _ IA.out.rd IG.out.rd).mono ?_; rintro e w10 ⟨he10, hd10⟩; rw [eqB_self] at he10; subst he10; have hb10 : Below w9.heap.size w9 w10 := (by obtain ⟨d, rfl⟩ := hd10; first | exact below_drewN (Below.refl _ _) d | exact below_drewN ((Below.refl _ _).drew) d); clear hd10; have hz10 := hb10.size; replace X := Lib.hid (X.out.next hb10 (by omega)); replace Y := Lib.hid (Y.out.next hb10 (by omega)); replace I1 := Lib.hid (I1.out.below hb10 (Nat.le_refl _)); replace IG := Lib.hid (IG.out.below hb10 (Nat.le_refl _)); replace IA := Lib.hid (IA.out.below hb10 (Nat.le_refl _)); replace B := Lib.hid (B.out.trans (hb10.mono (by omega))); clear hb10; have x0_10 := X.out.out.at0; have x1_10 := X.out.out.at1; have y0_10 := Y.out.out.at0; have y1_10 := Y.out.out.at1)
          refine hK.out _ _ (by first | exact ⟨x0_12, x1_12, y0_12, y1_12⟩ | exact ⟨x0_11, x1_11, y0_11, y1_11⟩ | exact ⟨x0_10, x1_10, y0_10, y1_10⟩ | exact ⟨x0_9, x1_9, y0_9, y1_9⟩ | exact ⟨x0, x1, y0, y1⟩ | go_keep) (fun hHeld => ?_)
          clear hK K
          try simp only [List.getElem_toArray, List.getElem_cons_zero, List.getElem_cons_succ, Act.put, List.setIfInBounds_toArray, List.set_cons_zero, List.set_cons_succ]
          refine wpAnyH_take (i := 13) (v := ?_) rfl (by kernel_rfl) (by kernel_rfl) (by kernel_rfl) (fun _ _ _ h => h) (Or.inl ⟨by rfl, ?_⟩) (by assumption) ?_
          rotate_left
          · (intro w hSw; (try dsimp only at hSw); go_simp; try with_reducible rfl)
          try simp only [List.getElem_toArray, List.getElem_cons_zero, List.getElem_cons_succ, Act.put, List.setIfInBounds_toArray, List.set_cons_zero, List.set_cons_succ]
          refine wpAnyH_take (i := 14) (v := ?_) rfl (by kernel_rfl) (by kernel_rfl) (by kernel_rfl) (fun _ _ _ h => h) (Or.inl ⟨by rfl, ?_⟩) (by assumption) ?_
          rotate_left
          · (intro w hSw; (try dsimp only at hSw); go_simp; try with_reducible rfl)
          try simp only [List.getElem_toArray, List.getElem_cons_zero, List.getElem_cons_succ, Act.put, List.setIfInBounds_toArray, List.set_cons_zero, List.set_cons_succ]
          refine wpAnyH_take (i := 15) (v := ?_) rfl (by kernel_rfl) (by kernel_rfl) (by kernel_rfl) (fun _ _ _ h => h) (Or.inl ⟨by rfl, ?_⟩) (by assumption) ?_
          rotate_left
          · (intro w hSw; (try dsimp only at hSw); go_simp; try with_reducible rfl)
          try simp only [List.getElem_toArray, List.getElem_cons_zero, List.getElem_cons_succ, Act.put, List.setIfInBounds_toArray, List.set_cons_zero, List.set_cons_succ]
          refine wpAnyH_take (i := 17) (v := ?_) rfl (by kernel_rfl) (by kernel_rfl) (by kernel_rfl) (fun _ _ _ h => h) (Or.inl ⟨by rfl, ?_⟩) (by assumption) ?_
          rotate_left
          · (intro w hSw; (try dsimp only at hSw); go_simp; try with_reducible rfl)
          try simp only [List.getElem_toArray, List.getElem_cons_zero, List.getElem_cons_succ, Act.put, List.setIfInBounds_toArray, List.set_cons_zero, List.set_cons_succ]
          refine wpAnyH_take (i := 18) (v := ?_) rfl (by kernel_rfl) (by kernel_rfl) (by kernel_rfl) (fun _ _ _ h => h) (Or.inl ⟨by rfl, ?_⟩) (by assumption) ?_
          rotate_left
          · (intro w hSw; (try dsimp only at hSw); go_simp; try with_reducible rfl)
          try simp only [List.getElem_toArray, List.getElem_cons_zero, List.getElem_cons_succ, Act.put, List.setIfInBounds_toArray, List.set_cons_zero, List.set_cons_succ]
          refine wpAnyH_ready (rs := [16]) (by kernel_rfl) (by simp) ?_
          refine AllReadyH.cons rfl (fun K hK => ?_) AllReadyH.nil
          try simp only [List.getElem_toArray]
          go_simp
          (go_at_call 23; refine (HD.out _ _ IG.out.rd).mono ?_; rintro e w11 ⟨a11, c11, rfl, hin11, hbd⟩; rw [HGl.out] at hin11 ⊢; have hb11 : Below w10.heap.size w10 w11 := (by first | exact hbd | exact ⟨hbd.os, hbd.tape, hbd.output, hbd.size, hbd.block⟩); clear hbd; have hz11 := hb11.size; replace X := Lib.hid (X.out.next hb11 (by omega)); replace Y := Lib.hid (Y.out.next hb11 (by omega)); replace I1 := Lib.hid (I1.out.below hb11 (Nat.le_refl _)); replace IG := Lib.hid (IG.out.below hb11 (Nat.le_refl _)); replace IA := Lib.hid (IA.out.below hb11 (Nat.le_refl _)); replace B := Lib.hid (B.out.trans (hb11.mono (by omega))); have IB := Lib.hid (hin11.mono (Nat.zero_le _)); clear hin11; clear hb11; have x0_11 := X.out.out.at0; have x1_11 := X.out.out.at1; have y0_11 := Y.out.out.at0; have y1_11 := Y.out.out.at1)
          refine hK.out _ _ (by first | exact ⟨x0_12, x1_12, y0_12, y1_12⟩ | exact ⟨x0_11, x1_11, y0_11, y1_11⟩ | exact ⟨x0_10, x1_10, y0_10, y1_10⟩ | exact ⟨x0_9, x1_9, y0_9, y1_9⟩ | exact ⟨x0, x1, y0, y1⟩ | go_keep) (fun hHeld => ?_)
          clear hK K
          try simp only [List.getElem_toArray, List.getElem_cons_zero, List.getElem_cons_succ, Act.put, List.setIfInBounds_toArray, List.set_cons_zero, List.set_cons_succ]
          refine wpAnyH_ready (rs := [19]) (by kernel_rfl) (by simp) ?_
          refine AllReadyH.cons rfl (fun K hK => ?_) AllReadyH.nil
          try simp only [List.getElem_toArray]
          go_simp
          (go_at_call 24; refine (lawsEqualInts _ _ (toI G) (toI G) _ IB.out.rd IG.out.rd).mono ?_; rintro e w12 ⟨he12, hd12⟩; rw [eqB_self] at he12; subst he12; have hb12 : Below w11.heap.size w11 w12 := (by obtain ⟨d, rfl⟩ := hd12; first | exact below_drewN (Below.refl _ _) d | exact below_drewN ((Below.refl _ _).drew) d); clear hd12; have hz12 := hb12.size; replace X := Lib.hid (X.out.next hb12 (by omega)); replace Y := Lib.hid (Y.out.next hb12 (by omega)); replace I1 := Lib.hid (I1.out.below hb12 (Nat.le_refl _)); replace IG := Lib.hid (IG.out.below hb12 (Nat.le_refl _)); replace IA := Lib.hid (IA.out.below hb12 (Nat.le_refl _)); replace IB := Lib.hid (IB.out.below hb12 (Nat.le_refl _)); replace B := Lib.hid (B.out.trans (hb12.mono (by omega))); clear hb12; have x0_12 := X.out.out.at0; have x1_12 := X.out.out.at1; have y0_12 := Y.out.out.at0; have y1_12 := Y.out.out.at1)
          refine hK.out _ _ (by first | exact ⟨x0_12, x1_12, y0_12, y1_12⟩ | exact ⟨x0_11, x1_11, y0_11, y1_11⟩ | exact ⟨x0_10, x1_10, y0_10, y1_10⟩ | exact ⟨x0_9, x1_9, y0_9, y1_9⟩ | exact ⟨x0, x1, y0, y1⟩ | go_keep) (fun hHeld => ?_)
          clear hK K
          try simp only [List.getElem_toArray, List.getElem_cons_zero, List.getElem_cons_succ, Act.put, List.setIfInBounds_toArray, List.set_cons_zero, List.set_cons_succ]
          refine wpAnyH_take (i := 20) (v := ?_) rfl (by kernel_rfl) (by kernel_rfl) (by kernel_rfl) (fun _ _ _ h => h) (Or.inl ⟨by rfl, ?_⟩) (by assumption) ?_
          rotate_left
          · (intro w hSw; (try dsimp only at hSw); go_simp; try with_reducible rfl)
          try simp only [List.getElem_toArray, List.getElem_cons_zero, List.getElem_cons_succ, Act.put, List.setIfInBounds_toArray, List.set_cons_zero, List.set_cons_succ]
          refine wpAnyH_take (i := 21) (v := ?_) rfl (by kernel_rfl) (by kernel_rfl) (by kernel_rfl) (fun _ _ _ h => h) (Or.inl ⟨by rfl, ?_⟩) (by assumption) ?_
          rotate_left
          · (intro w hSw; (try dsimp only at hSw); go_simp; try with_reducible rfl)
          try simp only [List.getElem_toArray, List.getElem_cons_zero, List.getElem_cons_succ, Act.put, List.setIfInBounds_toArray, List.set_cons_zero, List.set_cons_succ]
          refine wpAnyH_done (by kernel_rfl) ?_ _
          all_goals
            go_wp2_with fail
            go_ret
            exact ⟨rfl, B.out⟩
    · rw [Bool.not_eq_true] at hv
      have eN : stN N zs = 0 := by rw [stN, hv]; rfl
      have eL : stL N zs = [] := by rw [stL, hv]; rfl
      have HI := Lib.hid (fun v w h => implSettleClass N v zs w h)
      have HS := Lib.hid (fun v w h => specSettleClass N v zs w h)
      have HV := Lib.hid (fun v w h => implValid N v zs w h)
      rw [eN, eL] at HI HS
      rw [hv] at HV
      clear hv eN eL
      refine (HI.out _ _ I1.out.rd).mono ?_
      rintro e w3 ⟨a3, c3, rfl, hin3, hb3⟩
      rw [List.length_nil] at hin3 ⊢
      have hz3 := hb3.size
      replace X := Lib.hid (X.out.next hb3 (by omega))
      replace I1 := Lib.hid (I1.out.below hb3 (Nat.le_refl _))
      replace B := Lib.hid (B.out.trans (hb3.mono (by omega)))
      have IG := Lib.hid (hin3.mono (Nat.zero_le _))
      clear hin3 hb3
      have Y := Lib.hid (Bx.new 0 (.slice a3 0 c3) w3)
      replace X := Lib.hid (X.out.alloc (Obj.cells #[.int .i64 0, .slice a3 0 c3] 25))
      replace I1 := Lib.hid (I1.out.alloc (Obj.cells #[.int .i64 0, .slice a3 0 c3] 25))
      replace IG := Lib.hid (IG.out.alloc (Obj.cells #[.int .i64 0, .slice a3 0 c3] 25))
      replace B := Lib.hid (B.out.alloc B.out.size (Obj.cells #[.int .i64 0, .slice a3 0 c3] 25))
      have HZ := Lib.hid (show (w3.alloc (Obj.cells #[.int .i64 0, .slice a3 0 c3] 25)).heap.size = w3.heap.size + 1 by simp)
      go_wp2_with fail
      generalize (w3.alloc (Obj.cells #[.int .i64 0, .slice a3 0 c3] 25)) = w4 at *
      have hz4 := HZ.out
      clear HZ
      generalize ho2 : w3.heap.size = o2 at *
      have x0 := X.out.out.at0
      have x1 := X.out.out.at1
      have y0 := Y.out.out.at0
      have y1 := Y.out.out.at1
      go_wp2_with fail
      go_region_held3 (fun w' => w'.cell? ⟨o, 0, none⟩ = some (.int .i64 N) ∧ w'.cell? ⟨o, 1, none⟩ = some (.slice a1 L c1) ∧ w'.cell? ⟨o2, 0, none⟩ = some (.int .i64 0) ∧ w'.cell? ⟨o2, 1, none⟩ = some (.slice a3 0 c3)) (first | exact ⟨x0_7, x1_7, y0_7, y1_7⟩ | exact ⟨x0_6, x1_6, y0_6, y1_6⟩ | exact ⟨x0_5, x1_5, y0_5, y1_5⟩ | exact ⟨x0, x1, y0, y1⟩ | go_keep) (first
        | (go_at_call 29; refine (HS.out _ _ ⟨0, (by first | exact I1.out | exact I1.out.below (k := w4.heap.size) ((Below.refl _ _).drew) (Nat.le_refl _))⟩).mono ?_; rintro e w5 ⟨a5, c5, rfl, hin5, hbd⟩; rw [List.length_nil] at hin5 ⊢; have hb5 : Below w4.heap.size w4 w5 := (by first | exact hbd | exact ⟨hbd.os, hbd.tape, hbd.output, hbd.size, hbd.block⟩); clear hbd; have hz5 := hb5.size; replace X := Lib.hid (X.out.next hb5 (by omega)); replace Y := Lib.hid (Y.out.next hb5 (by omega)); replace I1 := Lib.hid (I1.out.below hb5 (Nat.le_refl _)); replace IG := Lib.hid (IG.out.below hb5 (Nat.le_refl _)); replace B := Lib.hid (B.out.trans (hb5.mono (by omega))); have IS := Lib.hid (hin5.mono (Nat.zero_le _)); clear hin5; clear hb5; have x0_5 := X.out.out.at0; have x1_5 := X.out.out.at1; have y0_5 := Y.out.out.at0; have y1_5 := Y.out.out.at1)
        | (go_at_call 28; refine (lawsEqualClass _ _ _ _ _ _ _ _ IG.out.rd IS.out.rd).mono ?_; rintro e w6 ⟨rfl, hbd⟩; have hb6 : Below w5.heap.size w5 w6 := (by first | exact hbd | exact ⟨hbd.os, hbd.tape, hbd.output, hbd.size, hbd.block⟩); clear hbd; have hz6 := hb6.size; replace X := Lib.hid (X.out.next hb6 (by omega)); replace Y := Lib.hid (Y.out.next hb6 (by omega)); replace I1 := Lib.hid (I1.out.below hb6 (Nat.le_refl _)); replace IG := Lib.hid (IG.out.below hb6 (Nat.le_refl _)); replace IS := Lib.hid (IS.out.below hb6 (Nat.le_refl _)); replace B := Lib.hid (B.out.trans (hb6.mono (by omega))); clear hb6; have x0_6 := X.out.out.at0; have x1_6 := X.out.out.at1; have y0_6 := Y.out.out.at0; have y1_6 := Y.out.out.at1)
        | (go_at_call 12; refine (HV.out _ _ I1.out.rd).mono ?_; rintro e w7 ⟨rfl, hbd⟩; have hb7 : Below w6.heap.size w6 w7 := (by first | exact hbd | exact ⟨hbd.os, hbd.tape, hbd.output, hbd.size, hbd.block⟩); clear hbd; have hz7 := hb7.size; replace X := Lib.hid (X.out.next hb7 (by omega)); replace Y := Lib.hid (Y.out.next hb7 (by omega)); replace I1 := Lib.hid (I1.out.below hb7 (Nat.le_refl _)); replace IG := Lib.hid (IG.out.below hb7 (Nat.le_refl _)); replace IS := Lib.hid (IS.out.below hb7 (Nat.le_refl _)); replace B := Lib.hid (B.out.trans (hb7.mono (by omega))); clear hb7; have x0_7 := X.out.out.at0; have x1_7 := X.out.out.at1; have y0_7 := Y.out.out.at0; have y1_7 := Y.out.out.at1))
      clear IS
      have x0 := X.out.out.at0
      have x1 := X.out.out.at1
      have y0 := Y.out.out.at0
      have y1 := Y.out.out.at1
      go_wp2_with fail
      go_region_held3 (fun w' => w'.cell? ⟨o, 0, none⟩ = some (.int .i64 N) ∧ w'.cell? ⟨o, 1, none⟩ = some (.slice a1 L c1) ∧ w'.cell? ⟨o2, 0, none⟩ = some (.int .i64 0) ∧ w'.cell? ⟨o2, 1, none⟩ = some (.slice a3 0 c3)) (first | exact ⟨x0_9, x1_9, y0_9, y1_9⟩ | exact ⟨x0_8, x1_8, y0_8, y1_8⟩ | exact ⟨x0, x1, y0, y1⟩ | go_keep) (first
        | (go_at_call 29; refine (HS.out _ _ ⟨0, (by first | exact I1.out | exact I1.out.below (k := w7.heap.size) ((Below.refl _ _).drew) (Nat.le_refl _))⟩).mono ?_; rintro e w8 ⟨a8, c8, rfl, hin8, hbd⟩; rw [List.length_nil] at hin8 ⊢; have hb8 : Below w7.heap.size w7 w8 := (by first | exact hbd | exact ⟨hbd.os, hbd.tape, hbd.output, hbd.size, hbd.block⟩); clear hbd; have hz8 := hb8.size; replace X := Lib.hid (X.out.next hb8 (by omega)); replace Y := Lib.hid (Y.out.next hb8 (by omega)); replace I1 := Lib.hid (I1.out.below hb8 (Nat.le_refl _)); replace IG := Lib.hid (IG.out.below hb8 (Nat.le_refl _)); replace B := Lib.hid (B.out.trans (hb8.mono (by omega))); have IS := Lib.hid (hin8.mono (Nat.zero_le _)); clear hin8; clear hb8; have x0_8 := X.out.out.at0; have x1_8 := X.out.out.at1; have y0_8 := Y.out.out.at0; have y1_8 := Y.out.out.at1)
        | (go_at_call 28; refine (lawsEqualClass _ _ _ _ _ _ _ _ IG.out.rd IS.out.rd).mono ?_; rintro e w9 ⟨rfl, hbd⟩; have hb9 : Below w8.heap.size w8 w9 := (by first | exact hbd | exact ⟨hbd.os, hbd.tape, hbd.output, hbd.size, hbd.block⟩); clear hbd; have hz9 := hb9.size; replace X := Lib.hid (X.out.next hb9 (by omega)); replace Y := Lib.hid (Y.out.next hb9 (by omega)); replace I1 := Lib.hid (I1.out.below hb9 (Nat.le_refl _)); replace IG := Lib.hid (IG.out.below hb9 (Nat.le_refl _)); replace IS := Lib.hid (IS.out.below hb9 (Nat.le_refl _)); replace B := Lib.hid (B.out.trans (hb9.mono (by omega))); clear hb9; have x0_9 := X.out.out.at0; have x1_9 := X.out.out.at1; have y0_9 := Y.out.out.at0; have y1_9 := Y.out.out.at1))
      all_goals
        go_wp2_with fail
        go_ret
        exact ⟨rfl, B.out⟩
  · go_enter Try.func6, Try.ntmps6
    go_wp2_with fail
    go_ret
    exact ⟨rfl, Below.refl _ _⟩

end Go.Proofs.Ytfnlfhgjmnjgaab
