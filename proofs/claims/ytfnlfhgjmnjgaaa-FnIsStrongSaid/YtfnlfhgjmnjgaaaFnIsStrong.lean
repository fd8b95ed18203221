/- FnIsStrong's walk: a class has a cube along a set, or its complement shatters the other points. Conditions: the code is a slice of bytes. -/
import Derived.Test.YtfnlfhgjmnjgaaaZK
import Derived.Test.YtfnlfhgjmnjgaaaZJ
import Derived.Test.YtfnlfhgjmnjgaaaZI
import Derived.Test.YtfnlfhgjmnjgaaaZB
import Derived.Test.YtfnlfhgjmnjgaaaIsStrS
import Derived.Test.YtfnlfhgjmnjgaaaZD
namespace Go.Proofs.Ytfnlfhgjmnjgaaa
open Go.RowKit

theorem eqB_self (xs : List Int) : eqB xs xs = true := eqB_of rfl (fun _ _ => rfl)

set_option maxHeartbeats 6400000 in
set_option maxRecDepth 100000 in
theorem walkFnIsStrong (a : Option Addr) (b off n cap : Nat) (w : World) (hc : n ≤ cap) (hcap : cap ≤ maxLen) (h : Byt w a b off n) :
    Calls Try.prog 8 #[.slice a n cap] w fun e w' => e = .returned (.bool true) ∧ Below w.heap.size w w' := by
  by_cases hn : n ≤ 1048576
  · have HD := Lib.hid (dDrawIsStrong a b off n cap w hc hn hcap h)
    clear h
    go_enter Try.func8, Try.ntmps8
    go_wp2_with fail
    refine HD.out.mono ?_
    rintro e w1 ⟨N, zs, s, hbd, a1, c1, rfl, hin, hb⟩
    generalize hL : zs.length = L at *
    have X := Lib.hid (Bx.new N (.slice a1 L c1) w1)
    have I1 := Lib.hid ((hin.mono (Nat.zero_le _)).alloc (Obj.cells #[.int .i64 N, .slice a1 L c1] 25))
    have B := Lib.hid (hb.alloc hb.size (Obj.cells #[.int .i64 N, .slice a1 L c1] 25))
    have HZ2 := Lib.hid (show (w1.alloc (Obj.cells #[.int .i64 N, .slice a1 L c1] 25)).heap.size = w1.heap.size + 1 by simp)
    have hz1 := hb.size
    clear hin hb HD
    go_wp2_with fail
    generalize (w1.alloc (Obj.cells #[.int .i64 N, .slice a1 L c1] 25)) = w2 at *
    have hz2 := HZ2.out
    generalize ho : w1.heap.size = o at *
    obtain ⟨hN0, hN1, hL34⟩ := hbd
    by_cases hv : vldB N zs = true
    · obtain ⟨m, ns, rfl, rfl, hcl⟩ := vldB_cls hv
      have hL2 : ns.length = L := by rw [← hL, toI_length]
      have hm := hcl.pts
      have HI := Lib.hid (fun v w h => implIsStrong (m : Int) v (toI ns) s w h)
      have HS := Lib.hid (fun v w h => specIsStrong (m : Int) v (toI ns) s w h)
      have HV := Lib.hid (fun v w h => implValid (m : Int) v (toI ns) w h)
      have HPW := Lib.hid (fun w => lawsPower (m : Int) w (by omega) (by omega))
      have hp5 := pow_le_32 hm
      have hp0 := Nat.two_pow_pos m
      obtain ⟨q, hq⟩ : ∃ q : Nat, q = 2 ^ m := ⟨_, rfl⟩
      have hqI : (2 : Int) ^ m = (q : Int) := by rw [hq]; simp
      rw [Int.toNat_natCast, hqI] at HPW
      rw [hv] at HV
      by_cases hs0 : s < 0
      · have hd1 : decide (s < 0) = true := decide_eq_true hs0
        generalize strB (m : Int) (toI ns) s = bb at *
        clear hq hqI hcl hv
        refine (HI.out _ _ I1.out.rd).mono ?_
        rintro e w3 ⟨rfl, hb3⟩
        have hz3 := hb3.size
        replace X := Lib.hid (X.out.next hb3 (by omega))
        replace I1 := Lib.hid (I1.out.below hb3 (Nat.le_refl _))
        replace B := Lib.hid (B.out.trans (hb3.mono (by omega)))
        clear hb3
        have x0 := X.out.out.at0
        have x1 := X.out.out.at1
        go_wp2_with fail
        clear x0 x1
        refine (HS.out _ _ I1.out.rd).mono ?_
        rintro e w4 ⟨rfl, hb4⟩
        have hz4 := hb4.size
        replace X := Lib.hid (X.out.next hb4 (by omega))
        replace I1 := Lib.hid (I1.out.below hb4 (Nat.le_refl _))
        replace B := Lib.hid (B.out.trans (hb4.mono (by omega)))
        clear hb4
        have x0 := X.out.out.at0
        have x1 := X.out.out.at1
        go_wp2_with fail
        clear x0 x1
        refine (HV.out _ _ I1.out.rd).mono ?_
        rintro e w5 ⟨rfl, hb5⟩
        have hz5 := hb5.size
        replace X := Lib.hid (X.out.next hb5 (by omega))
        replace I1 := Lib.hid (I1.out.below hb5 (Nat.le_refl _))
        replace B := Lib.hid (B.out.trans (hb5.mono (by omega)))
        clear hb5
        have x0 := X.out.out.at0
        have x1 := X.out.out.at1
        go_wp2_with fail
        clear x0 x1
        refine (HS.out _ _ I1.out.rd).mono ?_
        rintro e w6 ⟨rfl, hb6⟩
        have hz6 := hb6.size
        replace X := Lib.hid (X.out.next hb6 (by omega))
        replace I1 := Lib.hid (I1.out.below hb6 (Nat.le_refl _))
        replace B := Lib.hid (B.out.trans (hb6.mono (by omega)))
        clear hb6
        have x0 := X.out.out.at0
        have x1 := X.out.out.at1
        go_wp2_with fail
        clear x0 x1
        go_ret
        exact ⟨rfl, B.out⟩
      · have hd1 : decide (s < 0) = false := decide_eq_false hs0
        by_cases hs1 : (q : Int) ≤ s
        · have hd2 : decide ((q : Int) ≤ s) = true := decide_eq_true hs1
          generalize strB (m : Int) (toI ns) s = bb at *
          clear hq hqI hcl hv
          refine (HI.out _ _ I1.out.rd).mono ?_
          rintro e w3 ⟨rfl, hb3⟩
          have hz3 := hb3.size
          replace X := Lib.hid (X.out.next hb3 (by omega))
          replace I1 := Lib.hid (I1.out.below hb3 (Nat.le_refl _))
          replace B := Lib.hid (B.out.trans (hb3.mono (by omega)))
          clear hb3
          have x0 := X.out.out.at0
          have x1 := X.out.out.at1
          go_wp2_with fail
          clear x0 x1
          refine (HS.out _ _ I1.out.rd).mono ?_
          rintro e w4 ⟨rfl, hb4⟩
          have hz4 := hb4.size
          replace X := Lib.hid (X.out.next hb4 (by omega))
          replace I1 := Lib.hid (I1.out.below hb4 (Nat.le_refl _))
          replace B := Lib.hid (B.out.trans (hb4.mono (by omega)))
          clear hb4
          have x0 := X.out.out.at0
          have x1 := X.out.out.at1
          go_wp2_with fail
          clear x0 x1
          refine (HV.out _ _ I1.out.rd).mono ?_
          rintro e w5 ⟨rfl, hb5⟩
          have hz5 := hb5.size
          replace X := Lib.hid (X.out.next hb5 (by omega))
          replace I1 := Lib.hid (I1.out.below hb5 (Nat.le_refl _))
          replace B := Lib.hid (B.out.trans (hb5.mono (by omega)))
          clear hb5
          have x0 := X.out.out.at0
          have x1 := X.out.out.at1
          go_wp2_with fail
          clear x0 x1
          refine (HPW.out _).mono ?_
          rintro e w6 ⟨rfl, hw6⟩
          subst w6
          have x0 := X.out.out.at0
          have x1 := X.out.out.at1
          go_wp2_with fail
          clear x0 x1
          refine (HS.out _ _ I1.out.rd).mono ?_
          rintro e w6 ⟨rfl, hb6⟩
          have hz6 := hb6.size
          replace X := Lib.hid (X.out.next hb6 (by omega))
          replace I1 := Lib.hid (I1.out.below hb6 (Nat.le_refl _))
          replace B := Lib.hid (B.out.trans (hb6.mono (by omega)))
          clear hb6
          have x0 := X.out.out.at0
          have x1 := X.out.out.at1
          go_wp2_with fail
          clear x0 x1
          go_ret
          exact ⟨rfl, B.out⟩
        · have hd2 : decide ((q : Int) ≤ s) = false := decide_eq_false hs1
          obtain ⟨t, rfl⟩ := Int.eq_ofNat_of_zero_le (show 0 ≤ s by omega)
          have htq : t < 2 ^ m := by omega
          have hsb : setB m (t : Int) = true := by
            simp only [setB, Bool.and_eq_true, decide_eq_true_eq]
            omega
          have eS : strB (m : Int) (toI ns) (t : Int) = strg ns t := strB_in hv hsb
          have eH : shatB (m : Int) (toI ns) (t : Int) = sht ns t := shatB_in hv hsb
          obtain ⟨r, hr⟩ : ∃ r, r = q - 1 - t := ⟨_, rfl⟩
          have hrb : setB m (r : Int) = true := by
            simp only [setB, Bool.and_eq_true, decide_eq_true_eq]
            omega
          obtain ⟨G, hG⟩ : ∃ G, G = cmpl m ns := ⟨_, rfl⟩
          have eN : cmN (m : Int) (toI ns) = m := by rw [cmN, if_pos hv]
          have eC : cmL (m : Int) (toI ns) = toI G := by rw [cmL, if_pos hv, toNat_toI, Int.toNat_natCast, hG]
          have eG : shatB (m : Int) (toI G) (r : Int) = sht G r := shatB_in (cls_vldB (by rw [hG]; exact cmpl_cls hcl)) hrb
          have hst : strg ns t = !sht G r := by
            rw [strg_cmpl hcl htq, hG, hr, hq]
          have hss : strg ns t = true → sht ns t = true := strg_sht hcl htq
          have HT := Lib.hid (fun v w h => implIsShattered (m : Int) v (toI ns) (t : Int) w h)
          have HTG := Lib.hid (fun v w h => implIsShattered (m : Int) v (toI G) (r : Int) w h)
          have HC := Lib.hid (fun v w h => implComplementClass (m : Int) v (toI ns) w h)
          rw [eN, eC] at HC
          rw [eS] at HI HS
          rw [eH] at HT
          rw [eG] at HTG
          have HGl := Lib.hid (toI_length G)
          have hw1 : IntKind.i64.wrap ((q : Int) - 1) = (q : Int) - 1 := by rw [IntKind.wrap_i64]; omega
          have hw2 : IntKind.i64.wrap ((q : Int) - 1 - (t : Int)) = (r : Int) := by rw [IntKind.wrap_i64]; omega
          have hw3 : (q : Int) - 1 - (t : Int) = (r : Int) := by omega
          have hw0 : IntKind.i64.wrap (r : Int) = (r : Int) := by rw [IntKind.wrap_i64]; omega
          generalize sht G r = bg at *
          generalize sht ns t = bn at *
          generalize strg ns t = bs at *
          clear hq hqI hcl hv eS eH eN eC eG hsb hrb hr hG htq hs1 hs0
          refine (HI.out _ _ I1.out.rd).mono ?_
          rintro e w3 ⟨rfl, hb3⟩
          have hz3 := hb3.size
          replace X := Lib.hid (X.out.next hb3 (by omega))
          replace I1 := Lib.hid (I1.out.below hb3 (Nat.le_refl _))
          replace B := Lib.hid (B.out.trans (hb3.mono (by omega)))
          clear hb3
          have x0 := X.out.out.at0
          have x1 := X.out.out.at1
          go_wp2_with fail
          clear x0 x1
          refine (HS.out _ _ I1.out.rd).mono ?_
          rintro e w4 ⟨rfl, hb4⟩
          have hz4 := hb4.size
          replace X := Lib.hid (X.out.next hb4 (by omega))
          replace I1 := Lib.hid (I1.out.below hb4 (Nat.le_refl _))
          replace B := Lib.hid (B.out.trans (hb4.mono (by omega)))
          clear hb4
          have x0 := X.out.out.at0
          have x1 := X.out.out.at1
          go_wp2_with fail
          clear x0 x1
          refine (HV.out _ _ I1.out.rd).mono ?_
          rintro e w5 ⟨rfl, hb5⟩
          have hz5 := hb5.size
          replace X := Lib.hid (X.out.next hb5 (by omega))
          replace I1 := Lib.hid (I1.out.below hb5 (Nat.le_refl _))
          replace B := Lib.hid (B.out.trans (hb5.mono (by omega)))
          clear hb5
          have x0 := X.out.out.at0
          have x1 := X.out.out.at1
          go_wp2_with fail
          clear x0 x1
          refine (HPW.out _).mono ?_
          rintro e w6 ⟨rfl, hw6⟩
          subst w6
          cases bs
          · obtain rfl : bg = true := by
              clear HI HS HV HT HTG HC HPW hss
              cases bg with
              | true => rfl
              | false => exact absurd hst (by decide)
            clear hst hss
            have x0 := X.out.out.at0
            have x1 := X.out.out.at1
            go_wp2_with fail
            refine wp_region_held_drew (S := fun w' => w'.cell? ⟨o, 0, none⟩ = some (.int .i64 (m : Int)) ∧ w'.cell? ⟨o, 1, none⟩ = some (.slice a1 L c1)) (by kernel_rfl) (by first | exact ⟨x6, x7⟩ | exact ⟨x4, x5⟩ | exact ⟨x2, x3⟩ | exact ⟨x0, x1⟩ | go_keep) (fun hHeld => ?_)
            refine wpAnyH_take (i := 0) (v := ?_) rfl (by kernel_rfl) (by kernel_rfl) (by kernel_rfl) (fun _ _ _ h => h) (Or.inl ⟨by rfl, ?_⟩) (by assumption) ?_
            rotate_left
            · (intro w hSw; (try dsimp only at hSw); go_simp; try with_reducible rfl)
            try simp only [List.getElem_toArray, List.getElem_cons_zero, Act.put, List.setIfInBounds_toArray, List.set_cons_zero, List.set_cons_succ]
            refine wpAnyH_take (i := 1) (v := ?_) rfl (by kernel_rfl) (by kernel_rfl) (by kernel_rfl) (fun _ _ _ h => h) (Or.inl ⟨by rfl, ?_⟩) (by assumption) ?_
            rotate_left
            · (intro w hSw; (try dsimp only at hSw); go_simp; try with_reducible rfl)
            try simp only [List.getElem_toArray, List.getElem_cons_zero, List.getElem_cons_succ, Act.put, List.setIfInBounds_toArray, List.set_cons_zero, List.set_cons_succ]
            refine wpAnyH_take (i := 3) (v := ?_) rfl (by kernel_rfl) (by kernel_rfl) (by kernel_rfl) (fun _ _ _ h => h) (Or.inl ⟨by rfl, ?_⟩) (by assumption) ?_
            rotate_left
            · (intro w hSw; (try dsimp only at hSw); go_simp; try with_reducible rfl)
            try simp only [List.getElem_toArray, List.getElem_cons_zero, List.getElem_cons_succ, Act.put, List.setIfInBounds_toArray, List.set_cons_zero, List.set_cons_succ]
            refine wpAnyH_take (i := 4) (v := ?_) rfl (by kernel_rfl) (by kernel_rfl) (by kernel_rfl) (fun _ _ _ h => h) (Or.inl ⟨by rfl, ?_⟩) (by assumption) ?_
            rotate_left
            · (intro w hSw; (try dsimp only at hSw); go_simp; try with_reducible rfl)
            try simp only [List.getElem_toArray, List.getElem_cons_zero, List.getElem_cons_succ, Act.put, List.setIfInBounds_toArray, List.set_cons_zero, List.set_cons_succ]
            refine wpAnyH_take (i := 7) (v := ?_) rfl (by kernel_rfl) (by kernel_rfl) (by kernel_rfl) (fun _ _ _ h => h) (Or.inl ⟨by rfl, ?_⟩) (by assumption) ?_
            rotate_left
            · (intro w hSw; (try dsimp only at hSw); go_simp; try with_reducible rfl)
            try simp only [List.getElem_toArray, List.getElem_cons_zero, List.getElem_cons_succ, Act.put, List.setIfInBounds_toArray, List.set_cons_zero, List.set_cons_succ]
            refine wpAnyH_ready (rs := [2]) (by kernel_rfl) (by simp) ?_
            refine AllReadyH.cons rfl (fun K hK => ?_) AllReadyH.nil
            try simp only [List.getElem_toArray]
            go_simp
            (go_at_call 13; refine (HC.out _ _ (by first | exact I1.out.rd | exact I1.out.rd.below (k := w5.heap.size) ((Below.refl _ _).drew) (Nat.le_refl _))).mono ?_; rintro e w6 ⟨a6, c6, rfl, hin6, hbd⟩; rw [HGl.out] at hin6 ⊢; have hb6 : Below w5.heap.size w5 w6 := (by first | exact hbd | exact ⟨hbd.os, hbd.tape, hbd.output, hbd.size, hbd.block⟩); have hz6 := hb6.size; replace X := Lib.hid (X.out.next hb6 (by omega)); replace I1 := Lib.hid (I1.out.below hb6 (Nat.le_refl _)); replace B := Lib.hid (B.out.trans (hb6.mono (by omega))); have IG := Lib.hid (hin6.mono (Nat.zero_le _)); clear hin6 hb6 hbd; have x2 := X.out.out.at0; have x3 := X.out.out.at1)
            refine hK.out _ _ (by first | exact ⟨x6, x7⟩ | exact ⟨x4, x5⟩ | exact ⟨x2, x3⟩ | exact ⟨x0, x1⟩ | go_keep) (fun hHeld => ?_)
            clear hK K
            try simp only [List.getElem_toArray, List.getElem_cons_zero, List.getElem_cons_succ, Act.put, List.setIfInBounds_toArray, List.set_cons_zero, List.set_cons_succ]
            refine wpAnyH_ready (rs := [5]) (by kernel_rfl) (by simp) ?_
            refine AllReadyH.cons rfl (fun K hK => ?_) AllReadyH.nil
            try simp only [List.getElem_toArray]
            go_simp
            (go_at_call 18; refine (HPW.out _).mono ?_; rintro e w9 ⟨rfl, hw9⟩; subst w9)
            refine hK.out _ _ (by first | exact ⟨x6, x7⟩ | exact ⟨x4, x5⟩ | exact ⟨x2, x3⟩ | exact ⟨x0, x1⟩ | go_keep) (fun hHeld => ?_)
            clear hK K
            try simp only [List.getElem_toArray, List.getElem_cons_zero, List.getElem_cons_succ, Act.put, List.setIfInBounds_toArray, List.set_cons_zero, List.set_cons_succ]
            refine wpAnyH_take (i := 6) (v := ?_) rfl (by kernel_rfl) (by kernel_rfl) (by kernel_rfl) (fun _ _ _ h => h) (Or.inl ⟨by rfl, ?_⟩) (by assumption) ?_
            rotate_left
            · (intro w hSw; (try dsimp only at hSw); go_simp; try with_reducible rfl)
            try simp only [List.getElem_toArray, List.getElem_cons_zero, List.getElem_cons_succ, Act.put, List.setIfInBounds_toArray, List.set_cons_zero, List.set_cons_succ]
            refine wpAnyH_take (i := 8) (v := ?_) rfl (by kernel_rfl) (by kernel_rfl) (by kernel_rfl) (fun _ _ _ h => h) (Or.inl ⟨by rfl, ?_⟩) (by assumption) ?_
            rotate_left
            · (intro w hSw; (try dsimp only at hSw); go_simp; try with_reducible rfl)
            try simp only [List.getElem_toArray, List.getElem_cons_zero, List.getElem_cons_succ, Act.put, List.setIfInBounds_toArray, List.set_cons_zero, List.set_cons_succ]
            refine wpAnyH_ready (rs := [9]) (by kernel_rfl) (by simp) ?_
            refine AllReadyH.cons rfl (fun K hK => ?_) AllReadyH.nil
            try simp only [List.getElem_toArray]
            go_simp
            (go_at_call 22; (try simp only [hw1, hw3, hw0]); refine (HTG.out _ _ IG.out.rd).mono ?_; rintro e w7 ⟨rfl, hb7⟩; have hz7 := hb7.size; replace X := Lib.hid (X.out.next hb7 (by omega)); replace I1 := Lib.hid (I1.out.below hb7 (Nat.le_refl _)); replace IG := Lib.hid (IG.out.below hb7 (Nat.le_refl _)); replace B := Lib.hid (B.out.trans (hb7.mono (by omega))); clear hb7 HTG; have x4 := X.out.out.at0; have x5 := X.out.out.at1)
            refine hK.out _ _ (by first | exact ⟨x6, x7⟩ | exact ⟨x4, x5⟩ | exact ⟨x2, x3⟩ | exact ⟨x0, x1⟩ | go_keep) (fun hHeld => ?_)
            clear hK K
            try simp only [List.getElem_toArray, List.getElem_cons_zero, List.getElem_cons_succ, Act.put, List.setIfInBounds_toArray, List.set_cons_zero, List.set_cons_succ]
            refine wpAnyH_take (i := 10) (v := ?_) rfl (by kernel_rfl) (by kernel_rfl) (by kernel_rfl) (fun _ _ _ h => h) (Or.inl ⟨by rfl, ?_⟩) (by assumption) ?_
            rotate_left
            · (intro w hSw; (try dsimp only at hSw); go_simp; try with_reducible rfl)
            try simp only [List.getElem_toArray, List.getElem_cons_zero, List.getElem_cons_succ, Act.put, List.setIfInBounds_toArray, List.set_cons_zero, List.set_cons_succ]
            refine wpAnyH_take (i := 11) (v := ?_) rfl (by kernel_rfl) (by kernel_rfl) (by kernel_rfl) (fun _ _ _ h => h) (Or.inl ⟨by rfl, ?_⟩) (by assumption) ?_
            rotate_left
            · (intro w hSw; (try dsimp only at hSw); go_simp; try with_reducible rfl)
            try simp only [List.getElem_toArray, List.getElem_cons_zero, List.getElem_cons_succ, Act.put, List.setIfInBounds_toArray, List.set_cons_zero, List.set_cons_succ]
            refine wpAnyH_take (i := 12) (v := ?_) rfl (by kernel_rfl) (by kernel_rfl) (by kernel_rfl) (fun _ _ _ h => h) (Or.inl ⟨by rfl, ?_⟩) (by assumption) ?_
            rotate_left
            · (intro w hSw; (try dsimp only at hSw); go_simp; try with_reducible rfl)
            try simp only [List.getElem_toArray, List.getElem_cons_zero, List.getElem_cons_succ, Act.put, List.setIfInBounds_toArray, List.set_cons_zero, List.set_cons_succ]
            refine wpAnyH_take (i := 13) (v := ?_) rfl (by kernel_rfl) (by kernel_rfl) (by kernel_rfl) (fun _ _ _ h => h) (Or.inl ⟨by rfl, ?_⟩) (by assumption) ?_
            rotate_left
            · (intro w hSw; (try dsimp only at hSw); go_simp; try with_reducible rfl)
            try simp only [List.getElem_toArray, List.getElem_cons_zero, List.getElem_cons_succ, Act.put, List.setIfInBounds_toArray, List.set_cons_zero, List.set_cons_succ]
            refine wpAnyH_take (i := 14) (v := ?_) rfl (by kernel_rfl) (by kernel_rfl) (by kernel_rfl) (fun _ _ _ h => h) (Or.inl ⟨by rfl, ?_⟩) (by assumption) ?_
            rotate_left
            · (intro w hSw; (try dsimp only at hSw); go_simp; try with_reducible rfl)
            try simp only [List.getElem_toArray, List.getElem_cons_zero, List.getElem_cons_succ, Act.put, List.setIfInBounds_toArray, List.set_cons_zero, List.set_cons_succ]
            refine wpAnyH_take (i := 15) (v := ?_) rfl (by kernel_rfl) (by kernel_rfl) (by kernel_rfl) (fun _ _ _ h => h) (Or.inl ⟨by rfl, ?_⟩) (by assumption) ?_
            rotate_left
            · (intro w hSw; (try dsimp only at hSw); go_simp; try with_reducible rfl)
            try simp only [List.getElem_toArray, List.getElem_cons_zero, List.getElem_cons_succ, Act.put, List.setIfInBounds_toArray, List.set_cons_zero, List.set_cons_succ]
            refine wpAnyH_take (i := 16) (v := undef) rfl (by kernel_rfl) (by kernel_rfl) (by kernel_rfl) (fun _ _ _ h => h) (Or.inr ⟨by rfl, rfl⟩) (by assumption) ?_
            try simp only [List.getElem_toArray, List.getElem_cons_zero, List.getElem_cons_succ, Act.put, List.setIfInBounds_toArray, List.set_cons_zero, List.set_cons_succ]
            refine wpAnyH_take (i := 17) (v := undef) rfl (by kernel_rfl) (by kernel_rfl) (by kernel_rfl) (fun _ _ _ h => h) (Or.inr ⟨by rfl, rfl⟩) (by assumption) ?_
            try simp only [List.getElem_toArray, List.getElem_cons_zero, List.getElem_cons_succ, Act.put, List.setIfInBounds_toArray, List.set_cons_zero, List.set_cons_succ]
            refine wpAnyH_take (i := 18) (v := undef) rfl (by kernel_rfl) (by kernel_rfl) (by kernel_rfl) (fun _ _ _ h => h) (Or.inr ⟨by rfl, rfl⟩) (by assumption) ?_
            try simp only [List.getElem_toArray, List.getElem_cons_zero, List.getElem_cons_succ, Act.put, List.setIfInBounds_toArray, List.set_cons_zero, List.set_cons_succ]
            refine wpAnyH_take (i := 19) (v := ?_) rfl (by kernel_rfl) (by kernel_rfl) (by kernel_rfl) (fun _ _ _ h => h) (Or.inl ⟨by rfl, ?_⟩) (by assumption) ?_
            rotate_left
            · (intro w hSw; (try dsimp only at hSw); go_simp; try with_reducible rfl)
            try simp only [List.getElem_toArray, List.getElem_cons_zero, List.getElem_cons_succ, Act.put, List.setIfInBounds_toArray, List.set_cons_zero, List.set_cons_succ]
            refine wpAnyH_take (i := 20) (v := ?_) rfl (by kernel_rfl) (by kernel_rfl) (by kernel_rfl) (fun _ _ _ h => h) (Or.inl ⟨by rfl, ?_⟩) (by assumption) ?_
            rotate_left
            · (intro w hSw; (try dsimp only at hSw); go_simp; try with_reducible rfl)
            try simp only [List.getElem_toArray, List.getElem_cons_zero, List.getElem_cons_succ, Act.put, List.setIfInBounds_toArray, List.set_cons_zero, List.set_cons_succ]
            refine wpAnyH_take (i := 21) (v := ?_) rfl (by kernel_rfl) (by kernel_rfl) (by kernel_rfl) (fun _ _ _ h => h) (Or.inl ⟨by rfl, ?_⟩) (by assumption) ?_
            rotate_left
            · (intro w hSw; (try dsimp only at hSw); go_simp; try with_reducible rfl)
            try simp only [List.getElem_toArray, List.getElem_cons_zero, List.getElem_cons_succ, Act.put, List.setIfInBounds_toArray, List.set_cons_zero, List.set_cons_succ]
            refine wpAnyH_done (by kernel_rfl) ?_ _
            all_goals
              go_wp2_with fail
              go_ret
              exact ⟨rfl, B.out⟩
          · obtain rfl : bg = false := by
              clear HI HS HV HT HTG HC HPW hss
              cases bg with
              | false => rfl
              | true => exact absurd hst (by decide)
            obtain rfl : bn = true := hss rfl
            clear hst hss
            have x0 := X.out.out.at0
            have x1 := X.out.out.at1
            go_wp2_with fail
            go_region_held3 (fun w' => w'.cell? ⟨o, 0, none⟩ = some (.int .i64 (m : Int)) ∧ w'.cell? ⟨o, 1, none⟩ = some (.slice a1 L c1)) (first | exact ⟨x6, x7⟩ | exact ⟨x4, x5⟩ | exact ⟨x2, x3⟩ | exact ⟨x0, x1⟩ | go_keep) (first
              | (go_at_call 13; refine (HC.out _ _ (by first | exact I1.out.rd | exact I1.out.rd.below (k := w5.heap.size) ((Below.refl _ _).drew) (Nat.le_refl _))).mono ?_; rintro e w6 ⟨a6, c6, rfl, hin6, hbd⟩; rw [HGl.out] at hin6 ⊢; have hb6 : Below w5.heap.size w5 w6 := (by first | exact hbd | exact ⟨hbd.os, hbd.tape, hbd.output, hbd.size, hbd.block⟩); have hz6 := hb6.size; replace X := Lib.hid (X.out.next hb6 (by omega)); replace I1 := Lib.hid (I1.out.below hb6 (Nat.le_refl _)); replace B := Lib.hid (B.out.trans (hb6.mono (by omega))); have IG := Lib.hid (hin6.mono (Nat.zero_le _)); clear hin6 hb6 hbd; have x2 := X.out.out.at0; have x3 := X.out.out.at1)
              | (go_at_call 18; refine (HPW.out _).mono ?_; rintro e w9 ⟨rfl, hw9⟩; subst w9)
              | (go_at_call 22; (try simp only [hw1, hw3, hw0]); refine (HTG.out _ _ IG.out.rd).mono ?_; rintro e w7 ⟨rfl, hb7⟩; have hz7 := hb7.size; replace X := Lib.hid (X.out.next hb7 (by omega)); replace I1 := Lib.hid (I1.out.below hb7 (Nat.le_refl _)); replace IG := Lib.hid (IG.out.below hb7 (Nat.le_refl _)); replace B := Lib.hid (B.out.trans (hb7.mono (by omega))); clear hb7 HTG; have x4 := X.out.out.at0; have x5 := X.out.out.at1)
              | (go_at_call 22; refine (HT.out _ _ I1.out.rd).mono ?_; rintro e w8 ⟨rfl, hb8⟩; have hz8 := hb8.size; replace X := Lib.hid (X.out.next hb8 (by omega)); replace I1 := Lib.hid (I1.out.below hb8 (Nat.le_refl _)); replace IG := Lib.hid (IG.out.below hb8 (Nat.le_refl _)); replace B := Lib.hid (B.out.trans (hb8.mono (by omega))); clear hb8; have x6 := X.out.out.at0; have x7 := X.out.out.at1))
            all_goals
              go_wp2_with fail
              go_ret
              exact ⟨rfl, B.out⟩
    · rw [Bool.not_eq_true] at hv
      have eA : strB N zs s = false := strB_bad (by simp [inB, hv])
      have HI := Lib.hid (fun v w h => implIsStrong N v zs s w h)
      have HS := Lib.hid (fun v w h => specIsStrong N v zs s w h)
      have HV := Lib.hid (fun v w h => implValid N v zs w h)
      rw [eA] at HI HS
      rw [hv] at HV
      clear eA hv
      refine (HI.out _ _ I1.out.rd).mono ?_
      rintro e w3 ⟨rfl, hb3⟩
      have hz3 := hb3.size
      replace X := Lib.hid (X.out.next hb3 (by omega))
      replace I1 := Lib.hid (I1.out.below hb3 (Nat.le_refl _))
      replace B := Lib.hid (B.out.trans (hb3.mono (by omega)))
      clear hb3
      have x0 := X.out.out.at0
      have x1 := X.out.out.at1
      go_wp2_with fail
      clear x0 x1
      refine (HS.out _ _ I1.out.rd).mono ?_
      rintro e w4 ⟨rfl, hb4⟩
      have hz4 := hb4.size
      replace X := Lib.hid (X.out.next hb4 (by omega))
      replace I1 := Lib.hid (I1.out.below hb4 (Nat.le_refl _))
      replace B := Lib.hid (B.out.trans (hb4.mono (by omega)))
      clear hb4
      have x0 := X.out.out.at0
      have x1 := X.out.out.at1
      go_wp2_with fail
      clear x0 x1
      refine (HV.out _ _ I1.out.rd).mono ?_
      rintro e w5 ⟨rfl, hb5⟩
      have hz5 := hb5.size
      replace X := Lib.hid (X.out.next hb5 (by omega))
      replace I1 := Lib.hid (I1.out.below hb5 (Nat.le_refl _))
      replace B := Lib.hid (B.out.trans (hb5.mono (by omega)))
      clear hb5
      have x0 := X.out.out.at0
      have x1 := X.out.out.at1
      go_wp2_with fail
      clear x0 x1
      refine (HS.out _ _ I1.out.rd).mono ?_
      rintro e w6 ⟨rfl, hb6⟩
      have hz6 := hb6.size
      replace X := Lib.hid (X.out.next hb6 (by omega))
      replace I1 := Lib.hid (I1.out.below hb6 (Nat.le_refl _))
      replace B := Lib.hid (B.out.trans (hb6.mono (by omega)))
      clear hb6
      have x0 := X.out.out.at0
      have x1 := X.out.out.at1
      go_wp2_with fail
      clear x0 x1
      go_ret
      exact ⟨rfl, B.out⟩
  · go_enter Try.func8, Try.ntmps8
    go_wp2_with fail
    go_ret
    exact ⟨rfl, Below.refl _ _⟩

end Go.Proofs.Ytfnlfhgjmnjgaaa
